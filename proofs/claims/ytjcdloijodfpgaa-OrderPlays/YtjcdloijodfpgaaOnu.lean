/- What is done to both, an order and the document's: a key is used; there are at most seventy thousand keys. -/
import Derived.Test.YtjcdloijodfpgaaOne
import Derived.Test.YtjcdloijodfpgaaRug
import Derived.Deep.CutRange
namespace Go.Proofs.Ytjcdloijodfpgaa
open Go.RowKit Go.Sort Go.Maps Go.ChangeMaps Go.WideMaps
set_option linter.unusedVariables false
set_option linter.unusedSimpArgs false
def uL (most : Int) (xs : List K) (k : K) : List K := if k.2.size ≤ 64 then useL most xs k else xs
def uG (most : Int) (xs : List K) (k : K) : K := if k.2.size ≤ 64 then useG most xs k else kz
def uB (most : Int) (xs : List K) (k : K) : Bool := if k.2.size ≤ 64 then useB most xs k else false
def uZ (k : K) : Int := if k.2.size ≤ 64 then 0 else 20
theorem useU (w : World) (o : Nat) (F : List Nat) (most : Int) (xs : List K) (k : K) (hk : Ok k) (hl : xs.length ≤ 70000) (h : Oq w o F most xs) :
    Calls Try.prog 11 #[PT o, kv k] w fun e w' => e = .returned (.tuple #[kv (uG most xs k), .bool (uB most xs k), .int .i64 (uZ k)]) ∧ Ch w o F most (uL most xs k) w' := by
  unfold uL uG uB uZ
  by_cases h64 : k.2.size ≤ 64
  · simp only [if_pos h64]
    exact useO w o F most xs k hk h64 hl h
  · simp only [if_neg h64]
    exact (useO_long w o k (by omega)).mono (fun e w' ⟨h1, t⟩ => ⟨h1, F, h.keep0 t, t.mono (fun _ e => by cases e), Nf.refl _ _⟩)
theorem ruseU (w : World) (most : Int) (a : Option Addr) (n c : Nat) (xs : List K) (k : K) (hl : xs.length ≤ 70000) (h : RK w (.slice a n c) xs) :
    Calls Try.prog 12 #[rv most (.slice a n c), kv k] w fun e w' => ∃ a' n' c', e = .returned (.tuple #[rv most (.slice a' n' c'), kv (uG most xs k), .bool (uB most xs k), .int .i64 (uZ k)]) ∧ RK w' (.slice a' n' c') (uL most xs k) ∧ Touch [] w w' ∧ ∀ g, (Value.slice a' n' c').ownBlock = some g → w.heap.size ≤ g ∨ (Value.slice a n c).ownBlock = some g := by
  unfold uL uG uB uZ
  by_cases h64 : k.2.size ≤ 64
  · simp only [if_pos h64]
    refine (ruseG w most (.slice a n c) xs k h64 hl h).mono ?_
    rintro e w' ⟨v', rfl, r, t, f⟩
    obtain ⟨a', c', rfl⟩ := own_form r
    exact ⟨a', _, c', rfl, r, t, fun g hg => Or.inl (f g hg)⟩
  · simp only [if_neg h64]
    refine (ruse_long w most (.slice a n c) xs k (by omega) h).mono ?_
    rintro e w' ⟨rfl, r, t⟩
    exact ⟨a, n, c, rfl, r, t, fun g hg => Or.inr hg⟩
set_option maxHeartbeats 8000000 in
theorem one_use (w : World) (o : Nat) (F : List Nat) (most nn : Int) (v : Value) (xs : List K) (k : K) (hk : Ok k) (hl : xs.length ≤ 70000) (h : Oq w o F most xs) (hr : RK w v xs) :
    Calls Try.prog 9 #[PT o, rv most v, av 0 nn k] w fun e w' => ∃ v', e = .returned (.tuple #[PT o, rv most v', .bool true]) ∧ OnQ w o F most (uL most xs k) v' w' := by
  obtain ⟨a, n, c, rfl⟩ : ∃ a n c, v = .slice a n c := by
    obtain ⟨a, c, h1⟩ := own_form hr
    exact ⟨a, _, c, h1⟩
  have hF := hid h.lt
  have S0 := hid (OnS.start w most 0 nn (.slice a n c) k)
  have T0 := hid (OnS.start_t w most 0 nn (.slice a n c) k)
  have HP := hid (useU _ o F most xs k hk hl (h.keep0 T0.out))
  have HV : Hid (∀ V, Ch _ o F most (uL most xs k) V → Ch w o F most (uL most xs k) V ∧ OnS w most 0 nn (.slice a n c) k V ∧ RK V (.slice a n c) xs) := fun V (hc : Ch (((w.alloc (.cells #[.int .i64 most, .slice a n c] 31)).alloc (.cells #[.int .i64 0, .int .i64 nn, .int .u16 k.1, .string k.2] 38)).alloc (.cells #[.int .i64 0, .slice none 0 0] 31)) o F most (uL most xs k) V) => by
    have h0 := h.keep0 T0.out
    refine ⟨hc.from0 T0.out, ?_, ?_⟩
    · obtain ⟨F', _, c2, _⟩ := hc
      exact S0.out.keep c2 (fun i hi => Or.inl (hF.out i hi))
    · obtain ⟨F', _, c2, _⟩ := hc
      exact rk_order' h0 c2 (hr.keep T0.out)
  have HU := hid (fun W hw => ruseU W most a n c xs k hl hw)
  have HR := fun W => hid (ref14 W k)
  have HG := fun W => hid (ref14 W (uG most xs k))
  have nk := fun w => eqk w (uG most xs k) (uG most xs k)
  rw [decide_eq_true rfl] at nk
  clear h hr
  unfold PT kv rv av at *
  generalize uL most xs k = ys at *
  generalize uB most xs k = B at *
  generalize uZ k = z at *
  generalize uG most xs k = G at *
  go_enter Try.func9, Try.ntmps9
  go_upto_region 4 with (go_at_call 11; refine HP.out.mono ?_; rintro e w1 ⟨rfl, hc⟩; obtain ⟨v1, v2, v3⟩ := HV.out w1 hc; have C0 := hid v1; have S2 := hid v2; have R0 := hid v3; clear hc v1 v2 v3)
  obtain ⟨V, eV⟩ : ∃ V, V = w1.alloc (.cells #[.int .u16 G.1, .string G.2] 36) := ⟨_, rfl⟩
  have tV : Touch [] w1 V := by rw [eV]; exact (Touch.refl _ _).alloc _
  have C1 := hid (C0.out.keep0 tV)
  have S1 := hid (S2.out.keep tV (fun _ e => by cases e))
  have R1 := hid (R0.out.keep tV)
  have B9 : Hid (V.heap[w1.heap.size]? = some (.cells #[.int .u16 G.1, .string G.2] 36 (0, 0))) := by show _ = _; rw [eV]; exact heap_alloc_new _ _
  have lw1 := S2.out.sz
  rw [← eV]
  clear eV HP HV S0 T0 C0 S2 R0 tV
  generalize w1.heap.size = b9 at *
  go_cut [12, 13, 14, 15] from 40 to 49 (fun s12 s13 s14 s15 wx => ∃ (b12 b13 : Nat) (a5 : Option Addr) (n5 c5 : Nat), s12 = .pointer (some ⟨b12, 0, none⟩) ∧ s13 = .pointer (some ⟨b13, 0, none⟩) ∧ s14 = .bool B ∧ s15 = .int .i64 z ∧ Hid (wx.heap[b12]? = some (.cells #[.int .i64 most, .slice a5 n5 c5] 31 (0, 0)) ∧ wx.heap[b13]? = some (.cells #[.int .u16 G.1, .string G.2] 44 (0, 0)) ∧ RK wx (.slice a5 n5 c5) ys ∧ Touch [] V wx ∧ V.heap.size ≤ b12 ∧ V.heap.size ≤ b13))
  case first =>
    have sA : ∀ w', Touch [] V w' → w'.cell? ⟨w.heap.size, 0, none⟩ = some (.int .i64 most) := fun w' t => (S1.out.keep t (fun _ e => by cases e)).m.1
    have sB : ∀ w', Touch [] V w' → w'.cell? ⟨w.heap.size, 1, none⟩ = some (.slice a n c) := fun w' t => (S1.out.keep t (fun _ e => by cases e)).m.2
    have sC : ∀ w', Touch [] V w' → w'.cell? ⟨w.heap.size + 1, 2, none⟩ = some (.int .u16 k.1) := fun w' t => (S1.out.keep t (fun _ e => by cases e)).a.2.2.1
    have sD : ∀ w', Touch [] V w' → w'.cell? ⟨w.heap.size + 1, 3, none⟩ = some (.string k.2) := fun w' t => (S1.out.keep t (fun _ e => by cases e)).a.2.2.2
    refine wp_region_H (S := (fun w' => Touch [] V w')) (by kernel_rfl) ?_
    obtain ⟨Y0, eY0⟩ : ∃ Y, Y = V.drew := ⟨_, rfl⟩
    rw [← eY0]
    have hY0 : Touch [] V Y0 := by rw [eY0]; exact (Touch.refl _ _).drew
    clear eY0
    refine wpH_take (i := 0) (v := .agg #[.int .i64 most, .slice a n c]) (some 41) rfl rfl (by kernel_rfl) (by kernel_rfl) (by kernel_rfl) (fun _ _ _ h => h) (Or.inl ⟨by rfl, fun w' hS => (by have z0 := sA _ hS; have z1 := sB _ hS; go_simp)⟩) hY0 ?_
    try simp only [Go.Act.put, List.setIfInBounds_toArray, List.set_cons_zero, List.set_cons_succ]
    refine wpH_take (i := 1) (v := .pointer (some ⟨w.heap.size + 1, 2, none⟩)) (some 42) rfl rfl (by kernel_rfl) (by kernel_rfl) (by kernel_rfl) (fun _ _ _ h => h) (Or.inl ⟨by rfl, fun w' hS => (by go_simp)⟩) hY0 ?_
    try simp only [Go.Act.put, List.setIfInBounds_toArray, List.set_cons_zero, List.set_cons_succ]
    refine wpH_take (i := 2) (v := .agg #[.int .u16 k.1, .string k.2]) (some 43) rfl rfl (by kernel_rfl) (by kernel_rfl) (by kernel_rfl) (fun _ _ _ h => h) (Or.inl ⟨by rfl, fun w' hS => (by have z0 := sC _ hS; have z1 := sD _ hS; go_simp)⟩) hY0 ?_
    try simp only [Go.Act.put, List.setIfInBounds_toArray, List.set_cons_zero, List.set_cons_succ]
    refine wpH_ready (rs := [3, 10, 11]) (by kernel_rfl) (by simp) ?_
    refine AllH.cons (o := { dst := some 44, op := Op.call { callee := Callee.value (Operand.func 14), args := #[Operand.tmp 43], argTypes := #[36] }, type := 44, pos := _, after := #[{ on := 2, ground := Ground.data }], guard := none }) rfl (fun K' hK => ?_) ?_
    · rw [if_pos (by rfl)]
      go_simp
      refine (HR _).out.mono ?_
      rintro e Y1 ⟨rfl, gY1⟩
      have hY1 := hY0.trans' gY1
      refine hK.out _ _ hY1 ?_
      clear hK
      try simp only [Go.Act.put, List.setIfInBounds_toArray, List.set_cons_zero, List.set_cons_succ]
      refine wpH_ready (rs := [4, 10, 11]) (by kernel_rfl) (by simp) ?_
      refine AllH.cons (o := { dst := some 45, op := Op.call { callee := Callee.value (Operand.func 12), args := #[Operand.tmp 41, Operand.tmp 44], argTypes := #[31, 44] }, type := 45, pos := _, after := #[{ on := 0, ground := Ground.data }, { on := 3, ground := Ground.data }, { on := 3, ground := Ground.chain }], guard := none }) rfl (fun K' hK => ?_) ?_
      · rw [if_pos (by rfl)]
        go_simp
        refine (HU.out _ (R1.out.keep hY1)).mono ?_
        rintro e Y2 ⟨a5, n5, c5, rfl, r2, gY2, fr2⟩
        have hY2 := hY1.trans' gY2
        refine hK.out _ _ hY2 ?_
        clear hK
        try simp only [Go.Act.put, List.setIfInBounds_toArray, List.set_cons_zero, List.set_cons_succ]
        refine wpH_take (i := 5) (v := .tuple #[.agg #[.int .i64 most, .slice a5 n5 c5], .agg #[.int .u16 G.1, .string G.2], .bool B, .int .i64 z]) (some 40) rfl rfl (by kernel_rfl) (by kernel_rfl) (by kernel_rfl) (fun _ _ _ h => h) (Or.inl ⟨by rfl, fun w' hS => (by go_simp)⟩) hY2 ?_
        try simp only [Go.Act.put, List.setIfInBounds_toArray, List.set_cons_zero, List.set_cons_succ]
        refine wpH_take (i := 6) (v := .agg #[.int .i64 most, .slice a5 n5 c5]) (some 46) rfl rfl (by kernel_rfl) (by kernel_rfl) (by kernel_rfl) (fun _ _ _ h => h) (Or.inl ⟨by rfl, fun w' hS => (by go_simp)⟩) hY2 ?_
        try simp only [Go.Act.put, List.setIfInBounds_toArray, List.set_cons_zero, List.set_cons_succ]
        refine wpH_take (i := 7) (v := .agg #[.int .u16 G.1, .string G.2]) (some 47) rfl rfl (by kernel_rfl) (by kernel_rfl) (by kernel_rfl) (fun _ _ _ h => h) (Or.inl ⟨by rfl, fun w' hS => (by go_simp)⟩) hY2 ?_
        try simp only [Go.Act.put, List.setIfInBounds_toArray, List.set_cons_zero, List.set_cons_succ]
        refine wpH_take (i := 8) (v := .bool B) (some 48) rfl rfl (by kernel_rfl) (by kernel_rfl) (by kernel_rfl) (fun _ _ _ h => h) (Or.inl ⟨by rfl, fun w' hS => (by go_simp)⟩) hY2 ?_
        try simp only [Go.Act.put, List.setIfInBounds_toArray, List.set_cons_zero, List.set_cons_succ]
        refine wpH_take (i := 9) (v := .int .i64 z) (some 49) rfl rfl (by kernel_rfl) (by kernel_rfl) (by kernel_rfl) (fun _ _ _ h => h) (Or.inl ⟨by rfl, fun w' hS => (by go_simp)⟩) hY2 ?_
        try simp only [Go.Act.put, List.setIfInBounds_toArray, List.set_cons_zero, List.set_cons_succ]
        refine wpH_ready (rs := [10, 11]) (by kernel_rfl) (by simp) ?_
        refine AllH.cons (o := { dst := some 12, op := Op.alloc 31, type := 0, pos := _, after := #[], guard := none }) rfl (fun K' hK => ?_) ?_
        · rw [if_pos (by rfl)]
          go_simp
          refine hK.out _ _ (hY2.alloc _) ?_
          clear hK
          try simp only [Go.Act.put, List.setIfInBounds_toArray, List.set_cons_zero, List.set_cons_succ]
          obtain ⟨Y3, eY3⟩ : ∃ Y, Y = Y2.alloc (.cells #[.int .i64 0, .slice none 0 0] 31) := ⟨_, rfl⟩
          rw [← eY3]
          have hY3 : Touch [] V Y3 := by rw [eY3]; exact hY2.alloc _
          have gY3 : Touch [] Y2 Y3 := by rw [eY3]; exact (Touch.refl _ _).alloc _
          have A12_3 : Y3.heap[Y2.heap.size]? = some (.cells #[.int .i64 0, .slice none 0 0] 31 (0, 0)) := by rw [eY3]; exact heap_alloc_new _ _
          have r3 := RK.keep r2 gY3
          clear eY3
          refine wpH_ready (rs := [11]) (by kernel_rfl) (by simp) ?_
          refine AllH.cons (o := { dst := some 13, op := Op.alloc 44, type := 0, pos := _, after := #[], guard := none }) rfl (fun K' hK => ?_) ?_
          · rw [if_pos (by rfl)]
            go_simp
            refine hK.out _ _ (hY3.alloc _) ?_
            clear hK
            try simp only [Go.Act.put, List.setIfInBounds_toArray, List.set_cons_zero, List.set_cons_succ]
            obtain ⟨Y4, eY4⟩ : ∃ Y, Y = Y3.alloc (.cells #[.int .u16 0, .string ⟨#[]⟩] 44) := ⟨_, rfl⟩
            rw [← eY4]
            have hY4 : Touch [] V Y4 := by rw [eY4]; exact hY3.alloc _
            have gY4 : Touch [] Y3 Y4 := by rw [eY4]; exact (Touch.refl _ _).alloc _
            have A12_4 := gY4.keep A12_3 (by simp)
            have A13_4 : Y4.heap[Y3.heap.size]? = some (.cells #[.int .u16 0, .string ⟨#[]⟩] 44 (0, 0)) := by rw [eY4]; exact heap_alloc_new _ _
            have r4 := RK.keep r3 gY4
            have nee : ∀ g, (Value.slice a5 n5 c5).ownBlock = some g → g ≠ Y3.heap.size := fun g hg e => by have := (r3.lt g hg).2; omega
            clear eY4
            refine wpH_ready (rs := [12]) (by kernel_rfl) (by simp) ?_
            refine AllH.cons (o := { dst := none, op := Op.store 31 (Operand.tmp 12) (Operand.tmp 46), type := 0, pos := _, after := #[{ on := 10, ground := Ground.data }, { on := 6, ground := Ground.data }, { on := 4, ground := Ground.chain }, { on := 0, ground := Ground.phase }, { on := 1, ground := Ground.phase }, { on := 2, ground := Ground.phase }, { on := 3, ground := Ground.phase }, { on := 4, ground := Ground.phase }, { on := 5, ground := Ground.phase }, { on := 6, ground := Ground.phase }, { on := 7, ground := Ground.textOnly Departure.lateStores }, { on := 8, ground := Ground.textOnly Departure.lateStores }, { on := 9, ground := Ground.textOnly Departure.lateStores }, { on := 10, ground := Ground.phase }, { on := 11, ground := Ground.phase }], guard := none }) rfl (fun K' hK => ?_) ?_
            · rw [if_pos (by rfl)]
              have lb5 : V.heap.size ≤ Y2.heap.size := hY2.size
              have c5_0 : Y4.cell? ⟨Y2.heap.size, 0, none⟩ = some (.int .i64 0) := by simp [World.cell?, A12_4]
              have f5_0 : Y4.frozen? ⟨Y2.heap.size, 0, none⟩ = false := by simp [World.frozen?, A12_4]
              have c5_1 : Y4.cell? ⟨Y2.heap.size, 1, none⟩ = some (.slice none 0 0) := by simp [World.cell?, A12_4]
              have f5_1 : Y4.frozen? ⟨Y2.heap.size, 1, none⟩ = false := by simp [World.frozen?, A12_4]
              go_simp
              refine hK.out _ _ ((hY4.setCell (Or.inr lb5) _).setCell (Or.inr lb5) _) ?_
              clear hK
              try simp only [Go.Act.put, List.setIfInBounds_toArray, List.set_cons_zero, List.set_cons_succ]
              obtain ⟨Y5, eY5⟩ : ∃ Y, Y = ((Y4.setCell ⟨Y2.heap.size, 0, none⟩ (.int .i64 most)).setCell ⟨Y2.heap.size, 1, none⟩ (.slice a5 n5 c5)) := ⟨_, rfl⟩
              rw [← eY5]
              have hY5 : Touch [] V Y5 := by rw [eY5]; exact ((hY4.setCell (Or.inr lb5) _).setCell (Or.inr lb5) _)
              have gY5 : Touch [Y2.heap.size] Y4 Y5 := by rw [eY5]; exact (((Touch.refl _ _).setCell (by simp) _).setCell (by simp) _)
              have A12_5 : Y5.heap[Y2.heap.size]? = some (.cells #[.int .i64 most, .slice a5 n5 c5] 31 (0, 0)) := by rw [eY5]; exact bset (bset A12_4 _) _
              have A13_5 := gY5.keep A13_4 (fun hh => by simp only [List.mem_singleton] at hh; rw [hh, A12_4] at A13_4; simp at A13_4)
              have r5 : RK Y5 _ _ := own_touch r4 gY5 (fun g hg hh => by
                obtain ⟨cs, hcs⟩ := own_type r4 hg
                simp only [List.mem_singleton] at hh
                rw [hh, A12_4] at hcs
                simp at hcs)
              clear eY5 c5_0 f5_0 c5_1 f5_1
              refine wpH_ready (rs := [13]) (by kernel_rfl) (by simp) ?_
              refine AllH.cons (o := { dst := none, op := Op.store 44 (Operand.tmp 13) (Operand.tmp 47), type := 0, pos := _, after := #[{ on := 11, ground := Ground.data }, { on := 7, ground := Ground.data }, { on := 12, ground := Ground.chain }, { on := 0, ground := Ground.phase }, { on := 1, ground := Ground.phase }, { on := 2, ground := Ground.phase }, { on := 3, ground := Ground.phase }, { on := 4, ground := Ground.phase }, { on := 5, ground := Ground.phase }, { on := 6, ground := Ground.phase }, { on := 7, ground := Ground.phase }, { on := 8, ground := Ground.textOnly Departure.lateStores }, { on := 9, ground := Ground.textOnly Departure.lateStores }, { on := 10, ground := Ground.phase }, { on := 11, ground := Ground.phase }, { on := 12, ground := Ground.phase }], guard := none }) rfl (fun K' hK => ?_) ?_
              · rw [if_pos (by rfl)]
                have lb6 : V.heap.size ≤ Y3.heap.size := hY3.size
                have c6_0 : Y5.cell? ⟨Y3.heap.size, 0, none⟩ = some (.int .u16 0) := by simp [World.cell?, A13_5]
                have f6_0 : Y5.frozen? ⟨Y3.heap.size, 0, none⟩ = false := by simp [World.frozen?, A13_5]
                have c6_1 : Y5.cell? ⟨Y3.heap.size, 1, none⟩ = some (.string ⟨#[]⟩) := by simp [World.cell?, A13_5]
                have f6_1 : Y5.frozen? ⟨Y3.heap.size, 1, none⟩ = false := by simp [World.frozen?, A13_5]
                go_simp
                refine hK.out _ _ ((hY5.setCell (Or.inr lb6) _).setCell (Or.inr lb6) _) ?_
                clear hK
                try simp only [Go.Act.put, List.setIfInBounds_toArray, List.set_cons_zero, List.set_cons_succ]
                obtain ⟨Y6, eY6⟩ : ∃ Y, Y = ((Y5.setCell ⟨Y3.heap.size, 0, none⟩ (.int .u16 G.1)).setCell ⟨Y3.heap.size, 1, none⟩ (.string G.2)) := ⟨_, rfl⟩
                rw [← eY6]
                have hY6 : Touch [] V Y6 := by rw [eY6]; exact ((hY5.setCell (Or.inr lb6) _).setCell (Or.inr lb6) _)
                have gY6 : Touch [Y3.heap.size] Y5 Y6 := by rw [eY6]; exact (((Touch.refl _ _).setCell (by simp) _).setCell (by simp) _)
                have A13_6 : Y6.heap[Y3.heap.size]? = some (.cells #[.int .u16 G.1, .string G.2] 44 (0, 0)) := by rw [eY6]; exact bset (bset A13_5 _) _
                have A12_6 := gY6.keep A12_5 (fun hh => by simp only [List.mem_singleton] at hh; rw [hh, A13_5] at A12_5; simp at A12_5)
                have r6 : RK Y6 _ _ := own_touch r5 gY6 (fun g hg hh => by simp only [List.mem_singleton] at hh; exact nee g hg hh)
                clear eY6 c6_0 f6_0 c6_1 f6_1
                refine wpH_take (i := 14) (v := .bool B) (some 14) rfl rfl (by kernel_rfl) (by kernel_rfl) (by kernel_rfl) (fun _ _ _ h => h) (Or.inl ⟨by rfl, fun w' hS => (by go_simp)⟩) hY6 ?_
                try simp only [Go.Act.put, List.setIfInBounds_toArray, List.set_cons_zero, List.set_cons_succ]
                refine wpH_take (i := 15) (v := .int .i64 z) (some 15) rfl rfl (by kernel_rfl) (by kernel_rfl) (by kernel_rfl) (fun _ _ _ h => h) (Or.inl ⟨by rfl, fun w' hS => (by go_simp)⟩) hY6 ?_
                try simp only [Go.Act.put, List.setIfInBounds_toArray, List.set_cons_zero, List.set_cons_succ]
                refine wpAnyH_done (by kernel_rfl) ?_ _
                go_wp2_with fail
                go_meet
                case rel => exact ⟨Y2.heap.size, Y3.heap.size, a5, n5, c5, rfl, rfl, rfl, rfl, A12_6, A13_6, r6, hY6, hY2.size, hY3.size⟩
              exact AllH.nil
            exact AllH.nil
          exact AllH.nil
        refine AllH.cons (o := { dst := some 13, op := Op.alloc 44, type := 0, pos := _, after := #[], guard := none }) rfl (fun K' hK => ?_) ?_
        · rw [if_pos (by rfl)]
          go_simp
          refine hK.out _ _ (hY2.alloc _) ?_
          clear hK
          try simp only [Go.Act.put, List.setIfInBounds_toArray, List.set_cons_zero, List.set_cons_succ]
          obtain ⟨Y7, eY7⟩ : ∃ Y, Y = Y2.alloc (.cells #[.int .u16 0, .string ⟨#[]⟩] 44) := ⟨_, rfl⟩
          rw [← eY7]
          have hY7 : Touch [] V Y7 := by rw [eY7]; exact hY2.alloc _
          have gY7 : Touch [] Y2 Y7 := by rw [eY7]; exact (Touch.refl _ _).alloc _
          have A13_7 : Y7.heap[Y2.heap.size]? = some (.cells #[.int .u16 0, .string ⟨#[]⟩] 44 (0, 0)) := by rw [eY7]; exact heap_alloc_new _ _
          have r7 := RK.keep r2 gY7
          have nee : ∀ g, (Value.slice a5 n5 c5).ownBlock = some g → g ≠ Y2.heap.size := fun g hg e => by have := (r2.lt g hg).2; omega
          clear eY7
          refine wpH_ready (rs := [10]) (by kernel_rfl) (by simp) ?_
          refine AllH.cons (o := { dst := some 12, op := Op.alloc 31, type := 0, pos := _, after := #[], guard := none }) rfl (fun K' hK => ?_) ?_
          · rw [if_pos (by rfl)]
            go_simp
            refine hK.out _ _ (hY7.alloc _) ?_
            clear hK
            try simp only [Go.Act.put, List.setIfInBounds_toArray, List.set_cons_zero, List.set_cons_succ]
            obtain ⟨Y8, eY8⟩ : ∃ Y, Y = Y7.alloc (.cells #[.int .i64 0, .slice none 0 0] 31) := ⟨_, rfl⟩
            rw [← eY8]
            have hY8 : Touch [] V Y8 := by rw [eY8]; exact hY7.alloc _
            have gY8 : Touch [] Y7 Y8 := by rw [eY8]; exact (Touch.refl _ _).alloc _
            have A13_8 := gY8.keep A13_7 (by simp)
            have A12_8 : Y8.heap[Y7.heap.size]? = some (.cells #[.int .i64 0, .slice none 0 0] 31 (0, 0)) := by rw [eY8]; exact heap_alloc_new _ _
            have r8 := RK.keep r7 gY8
            clear eY8
            refine wpH_ready (rs := [12]) (by kernel_rfl) (by simp) ?_
            refine AllH.cons (o := { dst := none, op := Op.store 31 (Operand.tmp 12) (Operand.tmp 46), type := 0, pos := _, after := #[{ on := 10, ground := Ground.data }, { on := 6, ground := Ground.data }, { on := 4, ground := Ground.chain }, { on := 0, ground := Ground.phase }, { on := 1, ground := Ground.phase }, { on := 2, ground := Ground.phase }, { on := 3, ground := Ground.phase }, { on := 4, ground := Ground.phase }, { on := 5, ground := Ground.phase }, { on := 6, ground := Ground.phase }, { on := 7, ground := Ground.textOnly Departure.lateStores }, { on := 8, ground := Ground.textOnly Departure.lateStores }, { on := 9, ground := Ground.textOnly Departure.lateStores }, { on := 10, ground := Ground.phase }, { on := 11, ground := Ground.phase }], guard := none }) rfl (fun K' hK => ?_) ?_
            · rw [if_pos (by rfl)]
              have lb9 : V.heap.size ≤ Y7.heap.size := hY7.size
              have c9_0 : Y8.cell? ⟨Y7.heap.size, 0, none⟩ = some (.int .i64 0) := by simp [World.cell?, A12_8]
              have f9_0 : Y8.frozen? ⟨Y7.heap.size, 0, none⟩ = false := by simp [World.frozen?, A12_8]
              have c9_1 : Y8.cell? ⟨Y7.heap.size, 1, none⟩ = some (.slice none 0 0) := by simp [World.cell?, A12_8]
              have f9_1 : Y8.frozen? ⟨Y7.heap.size, 1, none⟩ = false := by simp [World.frozen?, A12_8]
              go_simp
              refine hK.out _ _ ((hY8.setCell (Or.inr lb9) _).setCell (Or.inr lb9) _) ?_
              clear hK
              try simp only [Go.Act.put, List.setIfInBounds_toArray, List.set_cons_zero, List.set_cons_succ]
              obtain ⟨Y9, eY9⟩ : ∃ Y, Y = ((Y8.setCell ⟨Y7.heap.size, 0, none⟩ (.int .i64 most)).setCell ⟨Y7.heap.size, 1, none⟩ (.slice a5 n5 c5)) := ⟨_, rfl⟩
              rw [← eY9]
              have hY9 : Touch [] V Y9 := by rw [eY9]; exact ((hY8.setCell (Or.inr lb9) _).setCell (Or.inr lb9) _)
              have gY9 : Touch [Y7.heap.size] Y8 Y9 := by rw [eY9]; exact (((Touch.refl _ _).setCell (by simp) _).setCell (by simp) _)
              have A12_9 : Y9.heap[Y7.heap.size]? = some (.cells #[.int .i64 most, .slice a5 n5 c5] 31 (0, 0)) := by rw [eY9]; exact bset (bset A12_8 _) _
              have A13_9 := gY9.keep A13_8 (fun hh => by simp only [List.mem_singleton] at hh; rw [hh, A12_8] at A13_8; simp at A13_8)
              have r9 : RK Y9 _ _ := own_touch r8 gY9 (fun g hg hh => by
                obtain ⟨cs, hcs⟩ := own_type r8 hg
                simp only [List.mem_singleton] at hh
                rw [hh, A12_8] at hcs
                simp at hcs)
              clear eY9 c9_0 f9_0 c9_1 f9_1
              refine wpH_ready (rs := [13]) (by kernel_rfl) (by simp) ?_
              refine AllH.cons (o := { dst := none, op := Op.store 44 (Operand.tmp 13) (Operand.tmp 47), type := 0, pos := _, after := #[{ on := 11, ground := Ground.data }, { on := 7, ground := Ground.data }, { on := 12, ground := Ground.chain }, { on := 0, ground := Ground.phase }, { on := 1, ground := Ground.phase }, { on := 2, ground := Ground.phase }, { on := 3, ground := Ground.phase }, { on := 4, ground := Ground.phase }, { on := 5, ground := Ground.phase }, { on := 6, ground := Ground.phase }, { on := 7, ground := Ground.phase }, { on := 8, ground := Ground.textOnly Departure.lateStores }, { on := 9, ground := Ground.textOnly Departure.lateStores }, { on := 10, ground := Ground.phase }, { on := 11, ground := Ground.phase }, { on := 12, ground := Ground.phase }], guard := none }) rfl (fun K' hK => ?_) ?_
              · rw [if_pos (by rfl)]
                have lb10 : V.heap.size ≤ Y2.heap.size := hY2.size
                have c10_0 : Y9.cell? ⟨Y2.heap.size, 0, none⟩ = some (.int .u16 0) := by simp [World.cell?, A13_9]
                have f10_0 : Y9.frozen? ⟨Y2.heap.size, 0, none⟩ = false := by simp [World.frozen?, A13_9]
                have c10_1 : Y9.cell? ⟨Y2.heap.size, 1, none⟩ = some (.string ⟨#[]⟩) := by simp [World.cell?, A13_9]
                have f10_1 : Y9.frozen? ⟨Y2.heap.size, 1, none⟩ = false := by simp [World.frozen?, A13_9]
                go_simp
                refine hK.out _ _ ((hY9.setCell (Or.inr lb10) _).setCell (Or.inr lb10) _) ?_
                clear hK
                try simp only [Go.Act.put, List.setIfInBounds_toArray, List.set_cons_zero, List.set_cons_succ]
                obtain ⟨Y10, eY10⟩ : ∃ Y, Y = ((Y9.setCell ⟨Y2.heap.size, 0, none⟩ (.int .u16 G.1)).setCell ⟨Y2.heap.size, 1, none⟩ (.string G.2)) := ⟨_, rfl⟩
                rw [← eY10]
                have hY10 : Touch [] V Y10 := by rw [eY10]; exact ((hY9.setCell (Or.inr lb10) _).setCell (Or.inr lb10) _)
                have gY10 : Touch [Y2.heap.size] Y9 Y10 := by rw [eY10]; exact (((Touch.refl _ _).setCell (by simp) _).setCell (by simp) _)
                have A13_10 : Y10.heap[Y2.heap.size]? = some (.cells #[.int .u16 G.1, .string G.2] 44 (0, 0)) := by rw [eY10]; exact bset (bset A13_9 _) _
                have A12_10 := gY10.keep A12_9 (fun hh => by simp only [List.mem_singleton] at hh; rw [hh, A13_9] at A12_9; simp at A12_9)
                have r10 : RK Y10 _ _ := own_touch r9 gY10 (fun g hg hh => by simp only [List.mem_singleton] at hh; exact nee g hg hh)
                clear eY10 c10_0 f10_0 c10_1 f10_1
                refine wpH_take (i := 14) (v := .bool B) (some 14) rfl rfl (by kernel_rfl) (by kernel_rfl) (by kernel_rfl) (fun _ _ _ h => h) (Or.inl ⟨by rfl, fun w' hS => (by go_simp)⟩) hY10 ?_
                try simp only [Go.Act.put, List.setIfInBounds_toArray, List.set_cons_zero, List.set_cons_succ]
                refine wpH_take (i := 15) (v := .int .i64 z) (some 15) rfl rfl (by kernel_rfl) (by kernel_rfl) (by kernel_rfl) (fun _ _ _ h => h) (Or.inl ⟨by rfl, fun w' hS => (by go_simp)⟩) hY10 ?_
                try simp only [Go.Act.put, List.setIfInBounds_toArray, List.set_cons_zero, List.set_cons_succ]
                refine wpAnyH_done (by kernel_rfl) ?_ _
                go_wp2_with fail
                go_meet
                case rel => exact ⟨Y7.heap.size, Y2.heap.size, a5, n5, c5, rfl, rfl, rfl, rfl, A12_10, A13_10, r10, hY10, hY7.size, hY2.size⟩
              exact AllH.nil
            exact AllH.nil
          exact AllH.nil
        exact AllH.nil
      refine AllH.cons (o := { dst := some 12, op := Op.alloc 31, type := 0, pos := _, after := #[], guard := none }) rfl (fun K' hK => ?_) ?_
      · rw [if_pos (by rfl)]
        go_simp
        refine hK.out _ _ (hY1.alloc _) ?_
        clear hK
        try simp only [Go.Act.put, List.setIfInBounds_toArray, List.set_cons_zero, List.set_cons_succ]
        obtain ⟨Y11, eY11⟩ : ∃ Y, Y = Y1.alloc (.cells #[.int .i64 0, .slice none 0 0] 31) := ⟨_, rfl⟩
        rw [← eY11]
        have hY11 : Touch [] V Y11 := by rw [eY11]; exact hY1.alloc _
        have gY11 : Touch [] Y1 Y11 := by rw [eY11]; exact (Touch.refl _ _).alloc _
        have A12_11 : Y11.heap[Y1.heap.size]? = some (.cells #[.int .i64 0, .slice none 0 0] 31 (0, 0)) := by rw [eY11]; exact heap_alloc_new _ _
        clear eY11
        refine wpH_ready (rs := [4, 11]) (by kernel_rfl) (by simp) ?_
        refine AllH.cons (o := { dst := some 45, op := Op.call { callee := Callee.value (Operand.func 12), args := #[Operand.tmp 41, Operand.tmp 44], argTypes := #[31, 44] }, type := 45, pos := _, after := #[{ on := 0, ground := Ground.data }, { on := 3, ground := Ground.data }, { on := 3, ground := Ground.chain }], guard := none }) rfl (fun K' hK => ?_) ?_
        · rw [if_pos (by rfl)]
          go_simp
          refine (HU.out _ (R1.out.keep hY11)).mono ?_
          rintro e Y12 ⟨a5, n5, c5, rfl, r12, gY12, fr12⟩
          have hY12 := hY11.trans' gY12
          have A12_12 := gY12.keep A12_11 (by simp)
          refine hK.out _ _ hY12 ?_
          clear hK
          try simp only [Go.Act.put, List.setIfInBounds_toArray, List.set_cons_zero, List.set_cons_succ]
          refine wpH_take (i := 5) (v := .tuple #[.agg #[.int .i64 most, .slice a5 n5 c5], .agg #[.int .u16 G.1, .string G.2], .bool B, .int .i64 z]) (some 40) rfl rfl (by kernel_rfl) (by kernel_rfl) (by kernel_rfl) (fun _ _ _ h => h) (Or.inl ⟨by rfl, fun w' hS => (by go_simp)⟩) hY12 ?_
          try simp only [Go.Act.put, List.setIfInBounds_toArray, List.set_cons_zero, List.set_cons_succ]
          refine wpH_take (i := 6) (v := .agg #[.int .i64 most, .slice a5 n5 c5]) (some 46) rfl rfl (by kernel_rfl) (by kernel_rfl) (by kernel_rfl) (fun _ _ _ h => h) (Or.inl ⟨by rfl, fun w' hS => (by go_simp)⟩) hY12 ?_
          try simp only [Go.Act.put, List.setIfInBounds_toArray, List.set_cons_zero, List.set_cons_succ]
          refine wpH_take (i := 7) (v := .agg #[.int .u16 G.1, .string G.2]) (some 47) rfl rfl (by kernel_rfl) (by kernel_rfl) (by kernel_rfl) (fun _ _ _ h => h) (Or.inl ⟨by rfl, fun w' hS => (by go_simp)⟩) hY12 ?_
          try simp only [Go.Act.put, List.setIfInBounds_toArray, List.set_cons_zero, List.set_cons_succ]
          refine wpH_take (i := 8) (v := .bool B) (some 48) rfl rfl (by kernel_rfl) (by kernel_rfl) (by kernel_rfl) (fun _ _ _ h => h) (Or.inl ⟨by rfl, fun w' hS => (by go_simp)⟩) hY12 ?_
          try simp only [Go.Act.put, List.setIfInBounds_toArray, List.set_cons_zero, List.set_cons_succ]
          refine wpH_take (i := 9) (v := .int .i64 z) (some 49) rfl rfl (by kernel_rfl) (by kernel_rfl) (by kernel_rfl) (fun _ _ _ h => h) (Or.inl ⟨by rfl, fun w' hS => (by go_simp)⟩) hY12 ?_
          try simp only [Go.Act.put, List.setIfInBounds_toArray, List.set_cons_zero, List.set_cons_succ]
          refine wpH_ready (rs := [11]) (by kernel_rfl) (by simp) ?_
          refine AllH.cons (o := { dst := some 13, op := Op.alloc 44, type := 0, pos := _, after := #[], guard := none }) rfl (fun K' hK => ?_) ?_
          · rw [if_pos (by rfl)]
            go_simp
            refine hK.out _ _ (hY12.alloc _) ?_
            clear hK
            try simp only [Go.Act.put, List.setIfInBounds_toArray, List.set_cons_zero, List.set_cons_succ]
            obtain ⟨Y13, eY13⟩ : ∃ Y, Y = Y12.alloc (.cells #[.int .u16 0, .string ⟨#[]⟩] 44) := ⟨_, rfl⟩
            rw [← eY13]
            have hY13 : Touch [] V Y13 := by rw [eY13]; exact hY12.alloc _
            have gY13 : Touch [] Y12 Y13 := by rw [eY13]; exact (Touch.refl _ _).alloc _
            have A12_13 := gY13.keep A12_12 (by simp)
            have A13_13 : Y13.heap[Y12.heap.size]? = some (.cells #[.int .u16 0, .string ⟨#[]⟩] 44 (0, 0)) := by rw [eY13]; exact heap_alloc_new _ _
            have r13 := RK.keep r12 gY13
            have nee : ∀ g, (Value.slice a5 n5 c5).ownBlock = some g → g ≠ Y12.heap.size := fun g hg e => by have := (r12.lt g hg).2; omega
            clear eY13
            refine wpH_ready (rs := [12]) (by kernel_rfl) (by simp) ?_
            refine AllH.cons (o := { dst := none, op := Op.store 31 (Operand.tmp 12) (Operand.tmp 46), type := 0, pos := _, after := #[{ on := 10, ground := Ground.data }, { on := 6, ground := Ground.data }, { on := 4, ground := Ground.chain }, { on := 0, ground := Ground.phase }, { on := 1, ground := Ground.phase }, { on := 2, ground := Ground.phase }, { on := 3, ground := Ground.phase }, { on := 4, ground := Ground.phase }, { on := 5, ground := Ground.phase }, { on := 6, ground := Ground.phase }, { on := 7, ground := Ground.textOnly Departure.lateStores }, { on := 8, ground := Ground.textOnly Departure.lateStores }, { on := 9, ground := Ground.textOnly Departure.lateStores }, { on := 10, ground := Ground.phase }, { on := 11, ground := Ground.phase }], guard := none }) rfl (fun K' hK => ?_) ?_
            · rw [if_pos (by rfl)]
              have lb14 : V.heap.size ≤ Y1.heap.size := hY1.size
              have c14_0 : Y13.cell? ⟨Y1.heap.size, 0, none⟩ = some (.int .i64 0) := by simp [World.cell?, A12_13]
              have f14_0 : Y13.frozen? ⟨Y1.heap.size, 0, none⟩ = false := by simp [World.frozen?, A12_13]
              have c14_1 : Y13.cell? ⟨Y1.heap.size, 1, none⟩ = some (.slice none 0 0) := by simp [World.cell?, A12_13]
              have f14_1 : Y13.frozen? ⟨Y1.heap.size, 1, none⟩ = false := by simp [World.frozen?, A12_13]
              go_simp
              refine hK.out _ _ ((hY13.setCell (Or.inr lb14) _).setCell (Or.inr lb14) _) ?_
              clear hK
              try simp only [Go.Act.put, List.setIfInBounds_toArray, List.set_cons_zero, List.set_cons_succ]
              obtain ⟨Y14, eY14⟩ : ∃ Y, Y = ((Y13.setCell ⟨Y1.heap.size, 0, none⟩ (.int .i64 most)).setCell ⟨Y1.heap.size, 1, none⟩ (.slice a5 n5 c5)) := ⟨_, rfl⟩
              rw [← eY14]
              have hY14 : Touch [] V Y14 := by rw [eY14]; exact ((hY13.setCell (Or.inr lb14) _).setCell (Or.inr lb14) _)
              have gY14 : Touch [Y1.heap.size] Y13 Y14 := by rw [eY14]; exact (((Touch.refl _ _).setCell (by simp) _).setCell (by simp) _)
              have A12_14 : Y14.heap[Y1.heap.size]? = some (.cells #[.int .i64 most, .slice a5 n5 c5] 31 (0, 0)) := by rw [eY14]; exact bset (bset A12_13 _) _
              have A13_14 := gY14.keep A13_13 (fun hh => by simp only [List.mem_singleton] at hh; rw [hh, A12_13] at A13_13; simp at A13_13)
              have r14 : RK Y14 _ _ := own_touch r13 gY14 (fun g hg hh => by
                obtain ⟨cs, hcs⟩ := own_type r13 hg
                simp only [List.mem_singleton] at hh
                rw [hh, A12_13] at hcs
                simp at hcs)
              clear eY14 c14_0 f14_0 c14_1 f14_1
              refine wpH_ready (rs := [13]) (by kernel_rfl) (by simp) ?_
              refine AllH.cons (o := { dst := none, op := Op.store 44 (Operand.tmp 13) (Operand.tmp 47), type := 0, pos := _, after := #[{ on := 11, ground := Ground.data }, { on := 7, ground := Ground.data }, { on := 12, ground := Ground.chain }, { on := 0, ground := Ground.phase }, { on := 1, ground := Ground.phase }, { on := 2, ground := Ground.phase }, { on := 3, ground := Ground.phase }, { on := 4, ground := Ground.phase }, { on := 5, ground := Ground.phase }, { on := 6, ground := Ground.phase }, { on := 7, ground := Ground.phase }, { on := 8, ground := Ground.textOnly Departure.lateStores }, { on := 9, ground := Ground.textOnly Departure.lateStores }, { on := 10, ground := Ground.phase }, { on := 11, ground := Ground.phase }, { on := 12, ground := Ground.phase }], guard := none }) rfl (fun K' hK => ?_) ?_
              · rw [if_pos (by rfl)]
                have lb15 : V.heap.size ≤ Y12.heap.size := hY12.size
                have c15_0 : Y14.cell? ⟨Y12.heap.size, 0, none⟩ = some (.int .u16 0) := by simp [World.cell?, A13_14]
                have f15_0 : Y14.frozen? ⟨Y12.heap.size, 0, none⟩ = false := by simp [World.frozen?, A13_14]
                have c15_1 : Y14.cell? ⟨Y12.heap.size, 1, none⟩ = some (.string ⟨#[]⟩) := by simp [World.cell?, A13_14]
                have f15_1 : Y14.frozen? ⟨Y12.heap.size, 1, none⟩ = false := by simp [World.frozen?, A13_14]
                go_simp
                refine hK.out _ _ ((hY14.setCell (Or.inr lb15) _).setCell (Or.inr lb15) _) ?_
                clear hK
                try simp only [Go.Act.put, List.setIfInBounds_toArray, List.set_cons_zero, List.set_cons_succ]
                obtain ⟨Y15, eY15⟩ : ∃ Y, Y = ((Y14.setCell ⟨Y12.heap.size, 0, none⟩ (.int .u16 G.1)).setCell ⟨Y12.heap.size, 1, none⟩ (.string G.2)) := ⟨_, rfl⟩
                rw [← eY15]
                have hY15 : Touch [] V Y15 := by rw [eY15]; exact ((hY14.setCell (Or.inr lb15) _).setCell (Or.inr lb15) _)
                have gY15 : Touch [Y12.heap.size] Y14 Y15 := by rw [eY15]; exact (((Touch.refl _ _).setCell (by simp) _).setCell (by simp) _)
                have A13_15 : Y15.heap[Y12.heap.size]? = some (.cells #[.int .u16 G.1, .string G.2] 44 (0, 0)) := by rw [eY15]; exact bset (bset A13_14 _) _
                have A12_15 := gY15.keep A12_14 (fun hh => by simp only [List.mem_singleton] at hh; rw [hh, A13_14] at A12_14; simp at A12_14)
                have r15 : RK Y15 _ _ := own_touch r14 gY15 (fun g hg hh => by simp only [List.mem_singleton] at hh; exact nee g hg hh)
                clear eY15 c15_0 f15_0 c15_1 f15_1
                refine wpH_take (i := 14) (v := .bool B) (some 14) rfl rfl (by kernel_rfl) (by kernel_rfl) (by kernel_rfl) (fun _ _ _ h => h) (Or.inl ⟨by rfl, fun w' hS => (by go_simp)⟩) hY15 ?_
                try simp only [Go.Act.put, List.setIfInBounds_toArray, List.set_cons_zero, List.set_cons_succ]
                refine wpH_take (i := 15) (v := .int .i64 z) (some 15) rfl rfl (by kernel_rfl) (by kernel_rfl) (by kernel_rfl) (fun _ _ _ h => h) (Or.inl ⟨by rfl, fun w' hS => (by go_simp)⟩) hY15 ?_
                try simp only [Go.Act.put, List.setIfInBounds_toArray, List.set_cons_zero, List.set_cons_succ]
                refine wpAnyH_done (by kernel_rfl) ?_ _
                go_wp2_with fail
                go_meet
                case rel => exact ⟨Y1.heap.size, Y12.heap.size, a5, n5, c5, rfl, rfl, rfl, rfl, A12_15, A13_15, r15, hY15, hY1.size, hY12.size⟩
              exact AllH.nil
            exact AllH.nil
          exact AllH.nil
        refine AllH.cons (o := { dst := some 13, op := Op.alloc 44, type := 0, pos := _, after := #[], guard := none }) rfl (fun K' hK => ?_) ?_
        · rw [if_pos (by rfl)]
          go_simp
          refine hK.out _ _ (hY11.alloc _) ?_
          clear hK
          try simp only [Go.Act.put, List.setIfInBounds_toArray, List.set_cons_zero, List.set_cons_succ]
          obtain ⟨Y16, eY16⟩ : ∃ Y, Y = Y11.alloc (.cells #[.int .u16 0, .string ⟨#[]⟩] 44) := ⟨_, rfl⟩
          rw [← eY16]
          have hY16 : Touch [] V Y16 := by rw [eY16]; exact hY11.alloc _
          have gY16 : Touch [] Y11 Y16 := by rw [eY16]; exact (Touch.refl _ _).alloc _
          have A12_16 := gY16.keep A12_11 (by simp)
          have A13_16 : Y16.heap[Y11.heap.size]? = some (.cells #[.int .u16 0, .string ⟨#[]⟩] 44 (0, 0)) := by rw [eY16]; exact heap_alloc_new _ _
          clear eY16
          refine wpH_ready (rs := [4]) (by kernel_rfl) (by simp) ?_
          refine AllH.cons (o := { dst := some 45, op := Op.call { callee := Callee.value (Operand.func 12), args := #[Operand.tmp 41, Operand.tmp 44], argTypes := #[31, 44] }, type := 45, pos := _, after := #[{ on := 0, ground := Ground.data }, { on := 3, ground := Ground.data }, { on := 3, ground := Ground.chain }], guard := none }) rfl (fun K' hK => ?_) ?_
          · rw [if_pos (by rfl)]
            go_simp
            refine (HU.out _ (R1.out.keep hY16)).mono ?_
            rintro e Y17 ⟨a5, n5, c5, rfl, r17, gY17, fr17⟩
            have hY17 := hY16.trans' gY17
            have A12_17 := gY17.keep A12_16 (by simp)
            have A13_17 := gY17.keep A13_16 (by simp)
            have lv17 : V.heap.size ≤ Y11.heap.size := hY11.size
            have nee : ∀ g, (Value.slice a5 n5 c5).ownBlock = some g → g ≠ Y11.heap.size := fun g hg e => by
              rcases fr17 g hg with h | h
              · have := block_lt A13_16; omega
              · have := (R1.out.lt g h).2; omega
            refine hK.out _ _ hY17 ?_
            clear hK
            try simp only [Go.Act.put, List.setIfInBounds_toArray, List.set_cons_zero, List.set_cons_succ]
            refine wpH_take (i := 5) (v := .tuple #[.agg #[.int .i64 most, .slice a5 n5 c5], .agg #[.int .u16 G.1, .string G.2], .bool B, .int .i64 z]) (some 40) rfl rfl (by kernel_rfl) (by kernel_rfl) (by kernel_rfl) (fun _ _ _ h => h) (Or.inl ⟨by rfl, fun w' hS => (by go_simp)⟩) hY17 ?_
            try simp only [Go.Act.put, List.setIfInBounds_toArray, List.set_cons_zero, List.set_cons_succ]
            refine wpH_take (i := 6) (v := .agg #[.int .i64 most, .slice a5 n5 c5]) (some 46) rfl rfl (by kernel_rfl) (by kernel_rfl) (by kernel_rfl) (fun _ _ _ h => h) (Or.inl ⟨by rfl, fun w' hS => (by go_simp)⟩) hY17 ?_
            try simp only [Go.Act.put, List.setIfInBounds_toArray, List.set_cons_zero, List.set_cons_succ]
            refine wpH_take (i := 7) (v := .agg #[.int .u16 G.1, .string G.2]) (some 47) rfl rfl (by kernel_rfl) (by kernel_rfl) (by kernel_rfl) (fun _ _ _ h => h) (Or.inl ⟨by rfl, fun w' hS => (by go_simp)⟩) hY17 ?_
            try simp only [Go.Act.put, List.setIfInBounds_toArray, List.set_cons_zero, List.set_cons_succ]
            refine wpH_take (i := 8) (v := .bool B) (some 48) rfl rfl (by kernel_rfl) (by kernel_rfl) (by kernel_rfl) (fun _ _ _ h => h) (Or.inl ⟨by rfl, fun w' hS => (by go_simp)⟩) hY17 ?_
            try simp only [Go.Act.put, List.setIfInBounds_toArray, List.set_cons_zero, List.set_cons_succ]
            refine wpH_take (i := 9) (v := .int .i64 z) (some 49) rfl rfl (by kernel_rfl) (by kernel_rfl) (by kernel_rfl) (fun _ _ _ h => h) (Or.inl ⟨by rfl, fun w' hS => (by go_simp)⟩) hY17 ?_
            try simp only [Go.Act.put, List.setIfInBounds_toArray, List.set_cons_zero, List.set_cons_succ]
            refine wpH_ready (rs := [12]) (by kernel_rfl) (by simp) ?_
            refine AllH.cons (o := { dst := none, op := Op.store 31 (Operand.tmp 12) (Operand.tmp 46), type := 0, pos := _, after := #[{ on := 10, ground := Ground.data }, { on := 6, ground := Ground.data }, { on := 4, ground := Ground.chain }, { on := 0, ground := Ground.phase }, { on := 1, ground := Ground.phase }, { on := 2, ground := Ground.phase }, { on := 3, ground := Ground.phase }, { on := 4, ground := Ground.phase }, { on := 5, ground := Ground.phase }, { on := 6, ground := Ground.phase }, { on := 7, ground := Ground.textOnly Departure.lateStores }, { on := 8, ground := Ground.textOnly Departure.lateStores }, { on := 9, ground := Ground.textOnly Departure.lateStores }, { on := 10, ground := Ground.phase }, { on := 11, ground := Ground.phase }], guard := none }) rfl (fun K' hK => ?_) ?_
            · rw [if_pos (by rfl)]
              have lb18 : V.heap.size ≤ Y1.heap.size := hY1.size
              have c18_0 : Y17.cell? ⟨Y1.heap.size, 0, none⟩ = some (.int .i64 0) := by simp [World.cell?, A12_17]
              have f18_0 : Y17.frozen? ⟨Y1.heap.size, 0, none⟩ = false := by simp [World.frozen?, A12_17]
              have c18_1 : Y17.cell? ⟨Y1.heap.size, 1, none⟩ = some (.slice none 0 0) := by simp [World.cell?, A12_17]
              have f18_1 : Y17.frozen? ⟨Y1.heap.size, 1, none⟩ = false := by simp [World.frozen?, A12_17]
              go_simp
              refine hK.out _ _ ((hY17.setCell (Or.inr lb18) _).setCell (Or.inr lb18) _) ?_
              clear hK
              try simp only [Go.Act.put, List.setIfInBounds_toArray, List.set_cons_zero, List.set_cons_succ]
              obtain ⟨Y18, eY18⟩ : ∃ Y, Y = ((Y17.setCell ⟨Y1.heap.size, 0, none⟩ (.int .i64 most)).setCell ⟨Y1.heap.size, 1, none⟩ (.slice a5 n5 c5)) := ⟨_, rfl⟩
              rw [← eY18]
              have hY18 : Touch [] V Y18 := by rw [eY18]; exact ((hY17.setCell (Or.inr lb18) _).setCell (Or.inr lb18) _)
              have gY18 : Touch [Y1.heap.size] Y17 Y18 := by rw [eY18]; exact (((Touch.refl _ _).setCell (by simp) _).setCell (by simp) _)
              have A12_18 : Y18.heap[Y1.heap.size]? = some (.cells #[.int .i64 most, .slice a5 n5 c5] 31 (0, 0)) := by rw [eY18]; exact bset (bset A12_17 _) _
              have A13_18 := gY18.keep A13_17 (fun hh => by simp only [List.mem_singleton] at hh; rw [hh, A12_17] at A13_17; simp at A13_17)
              have r18 : RK Y18 _ _ := own_touch r17 gY18 (fun g hg hh => by
                obtain ⟨cs, hcs⟩ := own_type r17 hg
                simp only [List.mem_singleton] at hh
                rw [hh, A12_17] at hcs
                simp at hcs)
              clear eY18 c18_0 f18_0 c18_1 f18_1
              refine wpH_ready (rs := [13]) (by kernel_rfl) (by simp) ?_
              refine AllH.cons (o := { dst := none, op := Op.store 44 (Operand.tmp 13) (Operand.tmp 47), type := 0, pos := _, after := #[{ on := 11, ground := Ground.data }, { on := 7, ground := Ground.data }, { on := 12, ground := Ground.chain }, { on := 0, ground := Ground.phase }, { on := 1, ground := Ground.phase }, { on := 2, ground := Ground.phase }, { on := 3, ground := Ground.phase }, { on := 4, ground := Ground.phase }, { on := 5, ground := Ground.phase }, { on := 6, ground := Ground.phase }, { on := 7, ground := Ground.phase }, { on := 8, ground := Ground.textOnly Departure.lateStores }, { on := 9, ground := Ground.textOnly Departure.lateStores }, { on := 10, ground := Ground.phase }, { on := 11, ground := Ground.phase }, { on := 12, ground := Ground.phase }], guard := none }) rfl (fun K' hK => ?_) ?_
              · rw [if_pos (by rfl)]
                have lb19 : V.heap.size ≤ Y11.heap.size := hY11.size
                have c19_0 : Y18.cell? ⟨Y11.heap.size, 0, none⟩ = some (.int .u16 0) := by simp [World.cell?, A13_18]
                have f19_0 : Y18.frozen? ⟨Y11.heap.size, 0, none⟩ = false := by simp [World.frozen?, A13_18]
                have c19_1 : Y18.cell? ⟨Y11.heap.size, 1, none⟩ = some (.string ⟨#[]⟩) := by simp [World.cell?, A13_18]
                have f19_1 : Y18.frozen? ⟨Y11.heap.size, 1, none⟩ = false := by simp [World.frozen?, A13_18]
                go_simp
                refine hK.out _ _ ((hY18.setCell (Or.inr lb19) _).setCell (Or.inr lb19) _) ?_
                clear hK
                try simp only [Go.Act.put, List.setIfInBounds_toArray, List.set_cons_zero, List.set_cons_succ]
                obtain ⟨Y19, eY19⟩ : ∃ Y, Y = ((Y18.setCell ⟨Y11.heap.size, 0, none⟩ (.int .u16 G.1)).setCell ⟨Y11.heap.size, 1, none⟩ (.string G.2)) := ⟨_, rfl⟩
                rw [← eY19]
                have hY19 : Touch [] V Y19 := by rw [eY19]; exact ((hY18.setCell (Or.inr lb19) _).setCell (Or.inr lb19) _)
                have gY19 : Touch [Y11.heap.size] Y18 Y19 := by rw [eY19]; exact (((Touch.refl _ _).setCell (by simp) _).setCell (by simp) _)
                have A13_19 : Y19.heap[Y11.heap.size]? = some (.cells #[.int .u16 G.1, .string G.2] 44 (0, 0)) := by rw [eY19]; exact bset (bset A13_18 _) _
                have A12_19 := gY19.keep A12_18 (fun hh => by simp only [List.mem_singleton] at hh; rw [hh, A13_18] at A12_18; simp at A12_18)
                have r19 : RK Y19 _ _ := own_touch r18 gY19 (fun g hg hh => by simp only [List.mem_singleton] at hh; exact nee g hg hh)
                clear eY19 c19_0 f19_0 c19_1 f19_1
                refine wpH_take (i := 14) (v := .bool B) (some 14) rfl rfl (by kernel_rfl) (by kernel_rfl) (by kernel_rfl) (fun _ _ _ h => h) (Or.inl ⟨by rfl, fun w' hS => (by go_simp)⟩) hY19 ?_
                try simp only [Go.Act.put, List.setIfInBounds_toArray, List.set_cons_zero, List.set_cons_succ]
                refine wpH_take (i := 15) (v := .int .i64 z) (some 15) rfl rfl (by kernel_rfl) (by kernel_rfl) (by kernel_rfl) (fun _ _ _ h => h) (Or.inl ⟨by rfl, fun w' hS => (by go_simp)⟩) hY19 ?_
                try simp only [Go.Act.put, List.setIfInBounds_toArray, List.set_cons_zero, List.set_cons_succ]
                refine wpAnyH_done (by kernel_rfl) ?_ _
                go_wp2_with fail
                go_meet
                case rel => exact ⟨Y1.heap.size, Y11.heap.size, a5, n5, c5, rfl, rfl, rfl, rfl, A12_19, A13_19, r19, hY19, hY1.size, hY11.size⟩
              exact AllH.nil
            exact AllH.nil
          exact AllH.nil
        exact AllH.nil
      refine AllH.cons (o := { dst := some 13, op := Op.alloc 44, type := 0, pos := _, after := #[], guard := none }) rfl (fun K' hK => ?_) ?_
      · rw [if_pos (by rfl)]
        go_simp
        refine hK.out _ _ (hY1.alloc _) ?_
        clear hK
        try simp only [Go.Act.put, List.setIfInBounds_toArray, List.set_cons_zero, List.set_cons_succ]
        obtain ⟨Y20, eY20⟩ : ∃ Y, Y = Y1.alloc (.cells #[.int .u16 0, .string ⟨#[]⟩] 44) := ⟨_, rfl⟩
        rw [← eY20]
        have hY20 : Touch [] V Y20 := by rw [eY20]; exact hY1.alloc _
        have gY20 : Touch [] Y1 Y20 := by rw [eY20]; exact (Touch.refl _ _).alloc _
        have A13_20 : Y20.heap[Y1.heap.size]? = some (.cells #[.int .u16 0, .string ⟨#[]⟩] 44 (0, 0)) := by rw [eY20]; exact heap_alloc_new _ _
        clear eY20
        refine wpH_ready (rs := [4, 10]) (by kernel_rfl) (by simp) ?_
        refine AllH.cons (o := { dst := some 45, op := Op.call { callee := Callee.value (Operand.func 12), args := #[Operand.tmp 41, Operand.tmp 44], argTypes := #[31, 44] }, type := 45, pos := _, after := #[{ on := 0, ground := Ground.data }, { on := 3, ground := Ground.data }, { on := 3, ground := Ground.chain }], guard := none }) rfl (fun K' hK => ?_) ?_
        · rw [if_pos (by rfl)]
          go_simp
          refine (HU.out _ (R1.out.keep hY20)).mono ?_
          rintro e Y21 ⟨a5, n5, c5, rfl, r21, gY21, fr21⟩
          have hY21 := hY20.trans' gY21
          have A13_21 := gY21.keep A13_20 (by simp)
          have lv21 : V.heap.size ≤ Y1.heap.size := hY1.size
          have nee : ∀ g, (Value.slice a5 n5 c5).ownBlock = some g → g ≠ Y1.heap.size := fun g hg e => by
            rcases fr21 g hg with h | h
            · have := block_lt A13_20; omega
            · have := (R1.out.lt g h).2; omega
          refine hK.out _ _ hY21 ?_
          clear hK
          try simp only [Go.Act.put, List.setIfInBounds_toArray, List.set_cons_zero, List.set_cons_succ]
          refine wpH_take (i := 5) (v := .tuple #[.agg #[.int .i64 most, .slice a5 n5 c5], .agg #[.int .u16 G.1, .string G.2], .bool B, .int .i64 z]) (some 40) rfl rfl (by kernel_rfl) (by kernel_rfl) (by kernel_rfl) (fun _ _ _ h => h) (Or.inl ⟨by rfl, fun w' hS => (by go_simp)⟩) hY21 ?_
          try simp only [Go.Act.put, List.setIfInBounds_toArray, List.set_cons_zero, List.set_cons_succ]
          refine wpH_take (i := 6) (v := .agg #[.int .i64 most, .slice a5 n5 c5]) (some 46) rfl rfl (by kernel_rfl) (by kernel_rfl) (by kernel_rfl) (fun _ _ _ h => h) (Or.inl ⟨by rfl, fun w' hS => (by go_simp)⟩) hY21 ?_
          try simp only [Go.Act.put, List.setIfInBounds_toArray, List.set_cons_zero, List.set_cons_succ]
          refine wpH_take (i := 7) (v := .agg #[.int .u16 G.1, .string G.2]) (some 47) rfl rfl (by kernel_rfl) (by kernel_rfl) (by kernel_rfl) (fun _ _ _ h => h) (Or.inl ⟨by rfl, fun w' hS => (by go_simp)⟩) hY21 ?_
          try simp only [Go.Act.put, List.setIfInBounds_toArray, List.set_cons_zero, List.set_cons_succ]
          refine wpH_take (i := 8) (v := .bool B) (some 48) rfl rfl (by kernel_rfl) (by kernel_rfl) (by kernel_rfl) (fun _ _ _ h => h) (Or.inl ⟨by rfl, fun w' hS => (by go_simp)⟩) hY21 ?_
          try simp only [Go.Act.put, List.setIfInBounds_toArray, List.set_cons_zero, List.set_cons_succ]
          refine wpH_take (i := 9) (v := .int .i64 z) (some 49) rfl rfl (by kernel_rfl) (by kernel_rfl) (by kernel_rfl) (fun _ _ _ h => h) (Or.inl ⟨by rfl, fun w' hS => (by go_simp)⟩) hY21 ?_
          try simp only [Go.Act.put, List.setIfInBounds_toArray, List.set_cons_zero, List.set_cons_succ]
          refine wpH_ready (rs := [10]) (by kernel_rfl) (by simp) ?_
          refine AllH.cons (o := { dst := some 12, op := Op.alloc 31, type := 0, pos := _, after := #[], guard := none }) rfl (fun K' hK => ?_) ?_
          · rw [if_pos (by rfl)]
            go_simp
            refine hK.out _ _ (hY21.alloc _) ?_
            clear hK
            try simp only [Go.Act.put, List.setIfInBounds_toArray, List.set_cons_zero, List.set_cons_succ]
            obtain ⟨Y22, eY22⟩ : ∃ Y, Y = Y21.alloc (.cells #[.int .i64 0, .slice none 0 0] 31) := ⟨_, rfl⟩
            rw [← eY22]
            have hY22 : Touch [] V Y22 := by rw [eY22]; exact hY21.alloc _
            have gY22 : Touch [] Y21 Y22 := by rw [eY22]; exact (Touch.refl _ _).alloc _
            have A13_22 := gY22.keep A13_21 (by simp)
            have A12_22 : Y22.heap[Y21.heap.size]? = some (.cells #[.int .i64 0, .slice none 0 0] 31 (0, 0)) := by rw [eY22]; exact heap_alloc_new _ _
            have r22 := RK.keep r21 gY22
            clear eY22
            refine wpH_ready (rs := [12]) (by kernel_rfl) (by simp) ?_
            refine AllH.cons (o := { dst := none, op := Op.store 31 (Operand.tmp 12) (Operand.tmp 46), type := 0, pos := _, after := #[{ on := 10, ground := Ground.data }, { on := 6, ground := Ground.data }, { on := 4, ground := Ground.chain }, { on := 0, ground := Ground.phase }, { on := 1, ground := Ground.phase }, { on := 2, ground := Ground.phase }, { on := 3, ground := Ground.phase }, { on := 4, ground := Ground.phase }, { on := 5, ground := Ground.phase }, { on := 6, ground := Ground.phase }, { on := 7, ground := Ground.textOnly Departure.lateStores }, { on := 8, ground := Ground.textOnly Departure.lateStores }, { on := 9, ground := Ground.textOnly Departure.lateStores }, { on := 10, ground := Ground.phase }, { on := 11, ground := Ground.phase }], guard := none }) rfl (fun K' hK => ?_) ?_
            · rw [if_pos (by rfl)]
              have lb23 : V.heap.size ≤ Y21.heap.size := hY21.size
              have c23_0 : Y22.cell? ⟨Y21.heap.size, 0, none⟩ = some (.int .i64 0) := by simp [World.cell?, A12_22]
              have f23_0 : Y22.frozen? ⟨Y21.heap.size, 0, none⟩ = false := by simp [World.frozen?, A12_22]
              have c23_1 : Y22.cell? ⟨Y21.heap.size, 1, none⟩ = some (.slice none 0 0) := by simp [World.cell?, A12_22]
              have f23_1 : Y22.frozen? ⟨Y21.heap.size, 1, none⟩ = false := by simp [World.frozen?, A12_22]
              go_simp
              refine hK.out _ _ ((hY22.setCell (Or.inr lb23) _).setCell (Or.inr lb23) _) ?_
              clear hK
              try simp only [Go.Act.put, List.setIfInBounds_toArray, List.set_cons_zero, List.set_cons_succ]
              obtain ⟨Y23, eY23⟩ : ∃ Y, Y = ((Y22.setCell ⟨Y21.heap.size, 0, none⟩ (.int .i64 most)).setCell ⟨Y21.heap.size, 1, none⟩ (.slice a5 n5 c5)) := ⟨_, rfl⟩
              rw [← eY23]
              have hY23 : Touch [] V Y23 := by rw [eY23]; exact ((hY22.setCell (Or.inr lb23) _).setCell (Or.inr lb23) _)
              have gY23 : Touch [Y21.heap.size] Y22 Y23 := by rw [eY23]; exact (((Touch.refl _ _).setCell (by simp) _).setCell (by simp) _)
              have A12_23 : Y23.heap[Y21.heap.size]? = some (.cells #[.int .i64 most, .slice a5 n5 c5] 31 (0, 0)) := by rw [eY23]; exact bset (bset A12_22 _) _
              have A13_23 := gY23.keep A13_22 (fun hh => by simp only [List.mem_singleton] at hh; rw [hh, A12_22] at A13_22; simp at A13_22)
              have r23 : RK Y23 _ _ := own_touch r22 gY23 (fun g hg hh => by
                obtain ⟨cs, hcs⟩ := own_type r22 hg
                simp only [List.mem_singleton] at hh
                rw [hh, A12_22] at hcs
                simp at hcs)
              clear eY23 c23_0 f23_0 c23_1 f23_1
              refine wpH_ready (rs := [13]) (by kernel_rfl) (by simp) ?_
              refine AllH.cons (o := { dst := none, op := Op.store 44 (Operand.tmp 13) (Operand.tmp 47), type := 0, pos := _, after := #[{ on := 11, ground := Ground.data }, { on := 7, ground := Ground.data }, { on := 12, ground := Ground.chain }, { on := 0, ground := Ground.phase }, { on := 1, ground := Ground.phase }, { on := 2, ground := Ground.phase }, { on := 3, ground := Ground.phase }, { on := 4, ground := Ground.phase }, { on := 5, ground := Ground.phase }, { on := 6, ground := Ground.phase }, { on := 7, ground := Ground.phase }, { on := 8, ground := Ground.textOnly Departure.lateStores }, { on := 9, ground := Ground.textOnly Departure.lateStores }, { on := 10, ground := Ground.phase }, { on := 11, ground := Ground.phase }, { on := 12, ground := Ground.phase }], guard := none }) rfl (fun K' hK => ?_) ?_
              · rw [if_pos (by rfl)]
                have lb24 : V.heap.size ≤ Y1.heap.size := hY1.size
                have c24_0 : Y23.cell? ⟨Y1.heap.size, 0, none⟩ = some (.int .u16 0) := by simp [World.cell?, A13_23]
                have f24_0 : Y23.frozen? ⟨Y1.heap.size, 0, none⟩ = false := by simp [World.frozen?, A13_23]
                have c24_1 : Y23.cell? ⟨Y1.heap.size, 1, none⟩ = some (.string ⟨#[]⟩) := by simp [World.cell?, A13_23]
                have f24_1 : Y23.frozen? ⟨Y1.heap.size, 1, none⟩ = false := by simp [World.frozen?, A13_23]
                go_simp
                refine hK.out _ _ ((hY23.setCell (Or.inr lb24) _).setCell (Or.inr lb24) _) ?_
                clear hK
                try simp only [Go.Act.put, List.setIfInBounds_toArray, List.set_cons_zero, List.set_cons_succ]
                obtain ⟨Y24, eY24⟩ : ∃ Y, Y = ((Y23.setCell ⟨Y1.heap.size, 0, none⟩ (.int .u16 G.1)).setCell ⟨Y1.heap.size, 1, none⟩ (.string G.2)) := ⟨_, rfl⟩
                rw [← eY24]
                have hY24 : Touch [] V Y24 := by rw [eY24]; exact ((hY23.setCell (Or.inr lb24) _).setCell (Or.inr lb24) _)
                have gY24 : Touch [Y1.heap.size] Y23 Y24 := by rw [eY24]; exact (((Touch.refl _ _).setCell (by simp) _).setCell (by simp) _)
                have A13_24 : Y24.heap[Y1.heap.size]? = some (.cells #[.int .u16 G.1, .string G.2] 44 (0, 0)) := by rw [eY24]; exact bset (bset A13_23 _) _
                have A12_24 := gY24.keep A12_23 (fun hh => by simp only [List.mem_singleton] at hh; rw [hh, A13_23] at A12_23; simp at A12_23)
                have r24 : RK Y24 _ _ := own_touch r23 gY24 (fun g hg hh => by simp only [List.mem_singleton] at hh; exact nee g hg hh)
                clear eY24 c24_0 f24_0 c24_1 f24_1
                refine wpH_take (i := 14) (v := .bool B) (some 14) rfl rfl (by kernel_rfl) (by kernel_rfl) (by kernel_rfl) (fun _ _ _ h => h) (Or.inl ⟨by rfl, fun w' hS => (by go_simp)⟩) hY24 ?_
                try simp only [Go.Act.put, List.setIfInBounds_toArray, List.set_cons_zero, List.set_cons_succ]
                refine wpH_take (i := 15) (v := .int .i64 z) (some 15) rfl rfl (by kernel_rfl) (by kernel_rfl) (by kernel_rfl) (fun _ _ _ h => h) (Or.inl ⟨by rfl, fun w' hS => (by go_simp)⟩) hY24 ?_
                try simp only [Go.Act.put, List.setIfInBounds_toArray, List.set_cons_zero, List.set_cons_succ]
                refine wpAnyH_done (by kernel_rfl) ?_ _
                go_wp2_with fail
                go_meet
                case rel => exact ⟨Y21.heap.size, Y1.heap.size, a5, n5, c5, rfl, rfl, rfl, rfl, A12_24, A13_24, r24, hY24, hY21.size, hY1.size⟩
              exact AllH.nil
            exact AllH.nil
          exact AllH.nil
        refine AllH.cons (o := { dst := some 12, op := Op.alloc 31, type := 0, pos := _, after := #[], guard := none }) rfl (fun K' hK => ?_) ?_
        · rw [if_pos (by rfl)]
          go_simp
          refine hK.out _ _ (hY20.alloc _) ?_
          clear hK
          try simp only [Go.Act.put, List.setIfInBounds_toArray, List.set_cons_zero, List.set_cons_succ]
          obtain ⟨Y25, eY25⟩ : ∃ Y, Y = Y20.alloc (.cells #[.int .i64 0, .slice none 0 0] 31) := ⟨_, rfl⟩
          rw [← eY25]
          have hY25 : Touch [] V Y25 := by rw [eY25]; exact hY20.alloc _
          have gY25 : Touch [] Y20 Y25 := by rw [eY25]; exact (Touch.refl _ _).alloc _
          have A13_25 := gY25.keep A13_20 (by simp)
          have A12_25 : Y25.heap[Y20.heap.size]? = some (.cells #[.int .i64 0, .slice none 0 0] 31 (0, 0)) := by rw [eY25]; exact heap_alloc_new _ _
          clear eY25
          refine wpH_ready (rs := [4]) (by kernel_rfl) (by simp) ?_
          refine AllH.cons (o := { dst := some 45, op := Op.call { callee := Callee.value (Operand.func 12), args := #[Operand.tmp 41, Operand.tmp 44], argTypes := #[31, 44] }, type := 45, pos := _, after := #[{ on := 0, ground := Ground.data }, { on := 3, ground := Ground.data }, { on := 3, ground := Ground.chain }], guard := none }) rfl (fun K' hK => ?_) ?_
          · rw [if_pos (by rfl)]
            go_simp
            refine (HU.out _ (R1.out.keep hY25)).mono ?_
            rintro e Y26 ⟨a5, n5, c5, rfl, r26, gY26, fr26⟩
            have hY26 := hY25.trans' gY26
            have A13_26 := gY26.keep A13_25 (by simp)
            have A12_26 := gY26.keep A12_25 (by simp)
            have lv26 : V.heap.size ≤ Y1.heap.size := hY1.size
            have nee : ∀ g, (Value.slice a5 n5 c5).ownBlock = some g → g ≠ Y1.heap.size := fun g hg e => by
              rcases fr26 g hg with h | h
              · have := block_lt A13_25; omega
              · have := (R1.out.lt g h).2; omega
            refine hK.out _ _ hY26 ?_
            clear hK
            try simp only [Go.Act.put, List.setIfInBounds_toArray, List.set_cons_zero, List.set_cons_succ]
            refine wpH_take (i := 5) (v := .tuple #[.agg #[.int .i64 most, .slice a5 n5 c5], .agg #[.int .u16 G.1, .string G.2], .bool B, .int .i64 z]) (some 40) rfl rfl (by kernel_rfl) (by kernel_rfl) (by kernel_rfl) (fun _ _ _ h => h) (Or.inl ⟨by rfl, fun w' hS => (by go_simp)⟩) hY26 ?_
            try simp only [Go.Act.put, List.setIfInBounds_toArray, List.set_cons_zero, List.set_cons_succ]
            refine wpH_take (i := 6) (v := .agg #[.int .i64 most, .slice a5 n5 c5]) (some 46) rfl rfl (by kernel_rfl) (by kernel_rfl) (by kernel_rfl) (fun _ _ _ h => h) (Or.inl ⟨by rfl, fun w' hS => (by go_simp)⟩) hY26 ?_
            try simp only [Go.Act.put, List.setIfInBounds_toArray, List.set_cons_zero, List.set_cons_succ]
            refine wpH_take (i := 7) (v := .agg #[.int .u16 G.1, .string G.2]) (some 47) rfl rfl (by kernel_rfl) (by kernel_rfl) (by kernel_rfl) (fun _ _ _ h => h) (Or.inl ⟨by rfl, fun w' hS => (by go_simp)⟩) hY26 ?_
            try simp only [Go.Act.put, List.setIfInBounds_toArray, List.set_cons_zero, List.set_cons_succ]
            refine wpH_take (i := 8) (v := .bool B) (some 48) rfl rfl (by kernel_rfl) (by kernel_rfl) (by kernel_rfl) (fun _ _ _ h => h) (Or.inl ⟨by rfl, fun w' hS => (by go_simp)⟩) hY26 ?_
            try simp only [Go.Act.put, List.setIfInBounds_toArray, List.set_cons_zero, List.set_cons_succ]
            refine wpH_take (i := 9) (v := .int .i64 z) (some 49) rfl rfl (by kernel_rfl) (by kernel_rfl) (by kernel_rfl) (fun _ _ _ h => h) (Or.inl ⟨by rfl, fun w' hS => (by go_simp)⟩) hY26 ?_
            try simp only [Go.Act.put, List.setIfInBounds_toArray, List.set_cons_zero, List.set_cons_succ]
            refine wpH_ready (rs := [12]) (by kernel_rfl) (by simp) ?_
            refine AllH.cons (o := { dst := none, op := Op.store 31 (Operand.tmp 12) (Operand.tmp 46), type := 0, pos := _, after := #[{ on := 10, ground := Ground.data }, { on := 6, ground := Ground.data }, { on := 4, ground := Ground.chain }, { on := 0, ground := Ground.phase }, { on := 1, ground := Ground.phase }, { on := 2, ground := Ground.phase }, { on := 3, ground := Ground.phase }, { on := 4, ground := Ground.phase }, { on := 5, ground := Ground.phase }, { on := 6, ground := Ground.phase }, { on := 7, ground := Ground.textOnly Departure.lateStores }, { on := 8, ground := Ground.textOnly Departure.lateStores }, { on := 9, ground := Ground.textOnly Departure.lateStores }, { on := 10, ground := Ground.phase }, { on := 11, ground := Ground.phase }], guard := none }) rfl (fun K' hK => ?_) ?_
            · rw [if_pos (by rfl)]
              have lb27 : V.heap.size ≤ Y20.heap.size := hY20.size
              have c27_0 : Y26.cell? ⟨Y20.heap.size, 0, none⟩ = some (.int .i64 0) := by simp [World.cell?, A12_26]
              have f27_0 : Y26.frozen? ⟨Y20.heap.size, 0, none⟩ = false := by simp [World.frozen?, A12_26]
              have c27_1 : Y26.cell? ⟨Y20.heap.size, 1, none⟩ = some (.slice none 0 0) := by simp [World.cell?, A12_26]
              have f27_1 : Y26.frozen? ⟨Y20.heap.size, 1, none⟩ = false := by simp [World.frozen?, A12_26]
              go_simp
              refine hK.out _ _ ((hY26.setCell (Or.inr lb27) _).setCell (Or.inr lb27) _) ?_
              clear hK
              try simp only [Go.Act.put, List.setIfInBounds_toArray, List.set_cons_zero, List.set_cons_succ]
              obtain ⟨Y27, eY27⟩ : ∃ Y, Y = ((Y26.setCell ⟨Y20.heap.size, 0, none⟩ (.int .i64 most)).setCell ⟨Y20.heap.size, 1, none⟩ (.slice a5 n5 c5)) := ⟨_, rfl⟩
              rw [← eY27]
              have hY27 : Touch [] V Y27 := by rw [eY27]; exact ((hY26.setCell (Or.inr lb27) _).setCell (Or.inr lb27) _)
              have gY27 : Touch [Y20.heap.size] Y26 Y27 := by rw [eY27]; exact (((Touch.refl _ _).setCell (by simp) _).setCell (by simp) _)
              have A12_27 : Y27.heap[Y20.heap.size]? = some (.cells #[.int .i64 most, .slice a5 n5 c5] 31 (0, 0)) := by rw [eY27]; exact bset (bset A12_26 _) _
              have A13_27 := gY27.keep A13_26 (fun hh => by simp only [List.mem_singleton] at hh; rw [hh, A12_26] at A13_26; simp at A13_26)
              have r27 : RK Y27 _ _ := own_touch r26 gY27 (fun g hg hh => by
                obtain ⟨cs, hcs⟩ := own_type r26 hg
                simp only [List.mem_singleton] at hh
                rw [hh, A12_26] at hcs
                simp at hcs)
              clear eY27 c27_0 f27_0 c27_1 f27_1
              refine wpH_ready (rs := [13]) (by kernel_rfl) (by simp) ?_
              refine AllH.cons (o := { dst := none, op := Op.store 44 (Operand.tmp 13) (Operand.tmp 47), type := 0, pos := _, after := #[{ on := 11, ground := Ground.data }, { on := 7, ground := Ground.data }, { on := 12, ground := Ground.chain }, { on := 0, ground := Ground.phase }, { on := 1, ground := Ground.phase }, { on := 2, ground := Ground.phase }, { on := 3, ground := Ground.phase }, { on := 4, ground := Ground.phase }, { on := 5, ground := Ground.phase }, { on := 6, ground := Ground.phase }, { on := 7, ground := Ground.phase }, { on := 8, ground := Ground.textOnly Departure.lateStores }, { on := 9, ground := Ground.textOnly Departure.lateStores }, { on := 10, ground := Ground.phase }, { on := 11, ground := Ground.phase }, { on := 12, ground := Ground.phase }], guard := none }) rfl (fun K' hK => ?_) ?_
              · rw [if_pos (by rfl)]
                have lb28 : V.heap.size ≤ Y1.heap.size := hY1.size
                have c28_0 : Y27.cell? ⟨Y1.heap.size, 0, none⟩ = some (.int .u16 0) := by simp [World.cell?, A13_27]
                have f28_0 : Y27.frozen? ⟨Y1.heap.size, 0, none⟩ = false := by simp [World.frozen?, A13_27]
                have c28_1 : Y27.cell? ⟨Y1.heap.size, 1, none⟩ = some (.string ⟨#[]⟩) := by simp [World.cell?, A13_27]
                have f28_1 : Y27.frozen? ⟨Y1.heap.size, 1, none⟩ = false := by simp [World.frozen?, A13_27]
                go_simp
                refine hK.out _ _ ((hY27.setCell (Or.inr lb28) _).setCell (Or.inr lb28) _) ?_
                clear hK
                try simp only [Go.Act.put, List.setIfInBounds_toArray, List.set_cons_zero, List.set_cons_succ]
                obtain ⟨Y28, eY28⟩ : ∃ Y, Y = ((Y27.setCell ⟨Y1.heap.size, 0, none⟩ (.int .u16 G.1)).setCell ⟨Y1.heap.size, 1, none⟩ (.string G.2)) := ⟨_, rfl⟩
                rw [← eY28]
                have hY28 : Touch [] V Y28 := by rw [eY28]; exact ((hY27.setCell (Or.inr lb28) _).setCell (Or.inr lb28) _)
                have gY28 : Touch [Y1.heap.size] Y27 Y28 := by rw [eY28]; exact (((Touch.refl _ _).setCell (by simp) _).setCell (by simp) _)
                have A13_28 : Y28.heap[Y1.heap.size]? = some (.cells #[.int .u16 G.1, .string G.2] 44 (0, 0)) := by rw [eY28]; exact bset (bset A13_27 _) _
                have A12_28 := gY28.keep A12_27 (fun hh => by simp only [List.mem_singleton] at hh; rw [hh, A13_27] at A12_27; simp at A12_27)
                have r28 : RK Y28 _ _ := own_touch r27 gY28 (fun g hg hh => by simp only [List.mem_singleton] at hh; exact nee g hg hh)
                clear eY28 c28_0 f28_0 c28_1 f28_1
                refine wpH_take (i := 14) (v := .bool B) (some 14) rfl rfl (by kernel_rfl) (by kernel_rfl) (by kernel_rfl) (fun _ _ _ h => h) (Or.inl ⟨by rfl, fun w' hS => (by go_simp)⟩) hY28 ?_
                try simp only [Go.Act.put, List.setIfInBounds_toArray, List.set_cons_zero, List.set_cons_succ]
                refine wpH_take (i := 15) (v := .int .i64 z) (some 15) rfl rfl (by kernel_rfl) (by kernel_rfl) (by kernel_rfl) (fun _ _ _ h => h) (Or.inl ⟨by rfl, fun w' hS => (by go_simp)⟩) hY28 ?_
                try simp only [Go.Act.put, List.setIfInBounds_toArray, List.set_cons_zero, List.set_cons_succ]
                refine wpAnyH_done (by kernel_rfl) ?_ _
                go_wp2_with fail
                go_meet
                case rel => exact ⟨Y20.heap.size, Y1.heap.size, a5, n5, c5, rfl, rfl, rfl, rfl, A12_28, A13_28, r28, hY28, hY20.size, hY1.size⟩
              exact AllH.nil
            exact AllH.nil
          exact AllH.nil
        exact AllH.nil
      exact AllH.nil
    refine AllH.cons (o := { dst := some 12, op := Op.alloc 31, type := 0, pos := _, after := #[], guard := none }) rfl (fun K' hK => ?_) ?_
    · rw [if_pos (by rfl)]
      go_simp
      refine hK.out _ _ (hY0.alloc _) ?_
      clear hK
      try simp only [Go.Act.put, List.setIfInBounds_toArray, List.set_cons_zero, List.set_cons_succ]
      obtain ⟨Y29, eY29⟩ : ∃ Y, Y = Y0.alloc (.cells #[.int .i64 0, .slice none 0 0] 31) := ⟨_, rfl⟩
      rw [← eY29]
      have hY29 : Touch [] V Y29 := by rw [eY29]; exact hY0.alloc _
      have gY29 : Touch [] Y0 Y29 := by rw [eY29]; exact (Touch.refl _ _).alloc _
      have A12_29 : Y29.heap[Y0.heap.size]? = some (.cells #[.int .i64 0, .slice none 0 0] 31 (0, 0)) := by rw [eY29]; exact heap_alloc_new _ _
      clear eY29
      refine wpH_ready (rs := [3, 11]) (by kernel_rfl) (by simp) ?_
      refine AllH.cons (o := { dst := some 44, op := Op.call { callee := Callee.value (Operand.func 14), args := #[Operand.tmp 43], argTypes := #[36] }, type := 44, pos := _, after := #[{ on := 2, ground := Ground.data }], guard := none }) rfl (fun K' hK => ?_) ?_
      · rw [if_pos (by rfl)]
        go_simp
        refine (HR _).out.mono ?_
        rintro e Y30 ⟨rfl, gY30⟩
        have hY30 := hY29.trans' gY30
        have A12_30 := gY30.keep A12_29 (by simp)
        refine hK.out _ _ hY30 ?_
        clear hK
        try simp only [Go.Act.put, List.setIfInBounds_toArray, List.set_cons_zero, List.set_cons_succ]
        refine wpH_ready (rs := [4, 11]) (by kernel_rfl) (by simp) ?_
        refine AllH.cons (o := { dst := some 45, op := Op.call { callee := Callee.value (Operand.func 12), args := #[Operand.tmp 41, Operand.tmp 44], argTypes := #[31, 44] }, type := 45, pos := _, after := #[{ on := 0, ground := Ground.data }, { on := 3, ground := Ground.data }, { on := 3, ground := Ground.chain }], guard := none }) rfl (fun K' hK => ?_) ?_
        · rw [if_pos (by rfl)]
          go_simp
          refine (HU.out _ (R1.out.keep hY30)).mono ?_
          rintro e Y31 ⟨a5, n5, c5, rfl, r31, gY31, fr31⟩
          have hY31 := hY30.trans' gY31
          have A12_31 := gY31.keep A12_30 (by simp)
          refine hK.out _ _ hY31 ?_
          clear hK
          try simp only [Go.Act.put, List.setIfInBounds_toArray, List.set_cons_zero, List.set_cons_succ]
          refine wpH_take (i := 5) (v := .tuple #[.agg #[.int .i64 most, .slice a5 n5 c5], .agg #[.int .u16 G.1, .string G.2], .bool B, .int .i64 z]) (some 40) rfl rfl (by kernel_rfl) (by kernel_rfl) (by kernel_rfl) (fun _ _ _ h => h) (Or.inl ⟨by rfl, fun w' hS => (by go_simp)⟩) hY31 ?_
          try simp only [Go.Act.put, List.setIfInBounds_toArray, List.set_cons_zero, List.set_cons_succ]
          refine wpH_take (i := 6) (v := .agg #[.int .i64 most, .slice a5 n5 c5]) (some 46) rfl rfl (by kernel_rfl) (by kernel_rfl) (by kernel_rfl) (fun _ _ _ h => h) (Or.inl ⟨by rfl, fun w' hS => (by go_simp)⟩) hY31 ?_
          try simp only [Go.Act.put, List.setIfInBounds_toArray, List.set_cons_zero, List.set_cons_succ]
          refine wpH_take (i := 7) (v := .agg #[.int .u16 G.1, .string G.2]) (some 47) rfl rfl (by kernel_rfl) (by kernel_rfl) (by kernel_rfl) (fun _ _ _ h => h) (Or.inl ⟨by rfl, fun w' hS => (by go_simp)⟩) hY31 ?_
          try simp only [Go.Act.put, List.setIfInBounds_toArray, List.set_cons_zero, List.set_cons_succ]
          refine wpH_take (i := 8) (v := .bool B) (some 48) rfl rfl (by kernel_rfl) (by kernel_rfl) (by kernel_rfl) (fun _ _ _ h => h) (Or.inl ⟨by rfl, fun w' hS => (by go_simp)⟩) hY31 ?_
          try simp only [Go.Act.put, List.setIfInBounds_toArray, List.set_cons_zero, List.set_cons_succ]
          refine wpH_take (i := 9) (v := .int .i64 z) (some 49) rfl rfl (by kernel_rfl) (by kernel_rfl) (by kernel_rfl) (fun _ _ _ h => h) (Or.inl ⟨by rfl, fun w' hS => (by go_simp)⟩) hY31 ?_
          try simp only [Go.Act.put, List.setIfInBounds_toArray, List.set_cons_zero, List.set_cons_succ]
          refine wpH_ready (rs := [11]) (by kernel_rfl) (by simp) ?_
          refine AllH.cons (o := { dst := some 13, op := Op.alloc 44, type := 0, pos := _, after := #[], guard := none }) rfl (fun K' hK => ?_) ?_
          · rw [if_pos (by rfl)]
            go_simp
            refine hK.out _ _ (hY31.alloc _) ?_
            clear hK
            try simp only [Go.Act.put, List.setIfInBounds_toArray, List.set_cons_zero, List.set_cons_succ]
            obtain ⟨Y32, eY32⟩ : ∃ Y, Y = Y31.alloc (.cells #[.int .u16 0, .string ⟨#[]⟩] 44) := ⟨_, rfl⟩
            rw [← eY32]
            have hY32 : Touch [] V Y32 := by rw [eY32]; exact hY31.alloc _
            have gY32 : Touch [] Y31 Y32 := by rw [eY32]; exact (Touch.refl _ _).alloc _
            have A12_32 := gY32.keep A12_31 (by simp)
            have A13_32 : Y32.heap[Y31.heap.size]? = some (.cells #[.int .u16 0, .string ⟨#[]⟩] 44 (0, 0)) := by rw [eY32]; exact heap_alloc_new _ _
            have r32 := RK.keep r31 gY32
            have nee : ∀ g, (Value.slice a5 n5 c5).ownBlock = some g → g ≠ Y31.heap.size := fun g hg e => by have := (r31.lt g hg).2; omega
            clear eY32
            refine wpH_ready (rs := [12]) (by kernel_rfl) (by simp) ?_
            refine AllH.cons (o := { dst := none, op := Op.store 31 (Operand.tmp 12) (Operand.tmp 46), type := 0, pos := _, after := #[{ on := 10, ground := Ground.data }, { on := 6, ground := Ground.data }, { on := 4, ground := Ground.chain }, { on := 0, ground := Ground.phase }, { on := 1, ground := Ground.phase }, { on := 2, ground := Ground.phase }, { on := 3, ground := Ground.phase }, { on := 4, ground := Ground.phase }, { on := 5, ground := Ground.phase }, { on := 6, ground := Ground.phase }, { on := 7, ground := Ground.textOnly Departure.lateStores }, { on := 8, ground := Ground.textOnly Departure.lateStores }, { on := 9, ground := Ground.textOnly Departure.lateStores }, { on := 10, ground := Ground.phase }, { on := 11, ground := Ground.phase }], guard := none }) rfl (fun K' hK => ?_) ?_
            · rw [if_pos (by rfl)]
              have lb33 : V.heap.size ≤ Y0.heap.size := hY0.size
              have c33_0 : Y32.cell? ⟨Y0.heap.size, 0, none⟩ = some (.int .i64 0) := by simp [World.cell?, A12_32]
              have f33_0 : Y32.frozen? ⟨Y0.heap.size, 0, none⟩ = false := by simp [World.frozen?, A12_32]
              have c33_1 : Y32.cell? ⟨Y0.heap.size, 1, none⟩ = some (.slice none 0 0) := by simp [World.cell?, A12_32]
              have f33_1 : Y32.frozen? ⟨Y0.heap.size, 1, none⟩ = false := by simp [World.frozen?, A12_32]
              go_simp
              refine hK.out _ _ ((hY32.setCell (Or.inr lb33) _).setCell (Or.inr lb33) _) ?_
              clear hK
              try simp only [Go.Act.put, List.setIfInBounds_toArray, List.set_cons_zero, List.set_cons_succ]
              obtain ⟨Y33, eY33⟩ : ∃ Y, Y = ((Y32.setCell ⟨Y0.heap.size, 0, none⟩ (.int .i64 most)).setCell ⟨Y0.heap.size, 1, none⟩ (.slice a5 n5 c5)) := ⟨_, rfl⟩
              rw [← eY33]
              have hY33 : Touch [] V Y33 := by rw [eY33]; exact ((hY32.setCell (Or.inr lb33) _).setCell (Or.inr lb33) _)
              have gY33 : Touch [Y0.heap.size] Y32 Y33 := by rw [eY33]; exact (((Touch.refl _ _).setCell (by simp) _).setCell (by simp) _)
              have A12_33 : Y33.heap[Y0.heap.size]? = some (.cells #[.int .i64 most, .slice a5 n5 c5] 31 (0, 0)) := by rw [eY33]; exact bset (bset A12_32 _) _
              have A13_33 := gY33.keep A13_32 (fun hh => by simp only [List.mem_singleton] at hh; rw [hh, A12_32] at A13_32; simp at A13_32)
              have r33 : RK Y33 _ _ := own_touch r32 gY33 (fun g hg hh => by
                obtain ⟨cs, hcs⟩ := own_type r32 hg
                simp only [List.mem_singleton] at hh
                rw [hh, A12_32] at hcs
                simp at hcs)
              clear eY33 c33_0 f33_0 c33_1 f33_1
              refine wpH_ready (rs := [13]) (by kernel_rfl) (by simp) ?_
              refine AllH.cons (o := { dst := none, op := Op.store 44 (Operand.tmp 13) (Operand.tmp 47), type := 0, pos := _, after := #[{ on := 11, ground := Ground.data }, { on := 7, ground := Ground.data }, { on := 12, ground := Ground.chain }, { on := 0, ground := Ground.phase }, { on := 1, ground := Ground.phase }, { on := 2, ground := Ground.phase }, { on := 3, ground := Ground.phase }, { on := 4, ground := Ground.phase }, { on := 5, ground := Ground.phase }, { on := 6, ground := Ground.phase }, { on := 7, ground := Ground.phase }, { on := 8, ground := Ground.textOnly Departure.lateStores }, { on := 9, ground := Ground.textOnly Departure.lateStores }, { on := 10, ground := Ground.phase }, { on := 11, ground := Ground.phase }, { on := 12, ground := Ground.phase }], guard := none }) rfl (fun K' hK => ?_) ?_
              · rw [if_pos (by rfl)]
                have lb34 : V.heap.size ≤ Y31.heap.size := hY31.size
                have c34_0 : Y33.cell? ⟨Y31.heap.size, 0, none⟩ = some (.int .u16 0) := by simp [World.cell?, A13_33]
                have f34_0 : Y33.frozen? ⟨Y31.heap.size, 0, none⟩ = false := by simp [World.frozen?, A13_33]
                have c34_1 : Y33.cell? ⟨Y31.heap.size, 1, none⟩ = some (.string ⟨#[]⟩) := by simp [World.cell?, A13_33]
                have f34_1 : Y33.frozen? ⟨Y31.heap.size, 1, none⟩ = false := by simp [World.frozen?, A13_33]
                go_simp
                refine hK.out _ _ ((hY33.setCell (Or.inr lb34) _).setCell (Or.inr lb34) _) ?_
                clear hK
                try simp only [Go.Act.put, List.setIfInBounds_toArray, List.set_cons_zero, List.set_cons_succ]
                obtain ⟨Y34, eY34⟩ : ∃ Y, Y = ((Y33.setCell ⟨Y31.heap.size, 0, none⟩ (.int .u16 G.1)).setCell ⟨Y31.heap.size, 1, none⟩ (.string G.2)) := ⟨_, rfl⟩
                rw [← eY34]
                have hY34 : Touch [] V Y34 := by rw [eY34]; exact ((hY33.setCell (Or.inr lb34) _).setCell (Or.inr lb34) _)
                have gY34 : Touch [Y31.heap.size] Y33 Y34 := by rw [eY34]; exact (((Touch.refl _ _).setCell (by simp) _).setCell (by simp) _)
                have A13_34 : Y34.heap[Y31.heap.size]? = some (.cells #[.int .u16 G.1, .string G.2] 44 (0, 0)) := by rw [eY34]; exact bset (bset A13_33 _) _
                have A12_34 := gY34.keep A12_33 (fun hh => by simp only [List.mem_singleton] at hh; rw [hh, A13_33] at A12_33; simp at A12_33)
                have r34 : RK Y34 _ _ := own_touch r33 gY34 (fun g hg hh => by simp only [List.mem_singleton] at hh; exact nee g hg hh)
                clear eY34 c34_0 f34_0 c34_1 f34_1
                refine wpH_take (i := 14) (v := .bool B) (some 14) rfl rfl (by kernel_rfl) (by kernel_rfl) (by kernel_rfl) (fun _ _ _ h => h) (Or.inl ⟨by rfl, fun w' hS => (by go_simp)⟩) hY34 ?_
                try simp only [Go.Act.put, List.setIfInBounds_toArray, List.set_cons_zero, List.set_cons_succ]
                refine wpH_take (i := 15) (v := .int .i64 z) (some 15) rfl rfl (by kernel_rfl) (by kernel_rfl) (by kernel_rfl) (fun _ _ _ h => h) (Or.inl ⟨by rfl, fun w' hS => (by go_simp)⟩) hY34 ?_
                try simp only [Go.Act.put, List.setIfInBounds_toArray, List.set_cons_zero, List.set_cons_succ]
                refine wpAnyH_done (by kernel_rfl) ?_ _
                go_wp2_with fail
                go_meet
                case rel => exact ⟨Y0.heap.size, Y31.heap.size, a5, n5, c5, rfl, rfl, rfl, rfl, A12_34, A13_34, r34, hY34, hY0.size, hY31.size⟩
              exact AllH.nil
            exact AllH.nil
          exact AllH.nil
        refine AllH.cons (o := { dst := some 13, op := Op.alloc 44, type := 0, pos := _, after := #[], guard := none }) rfl (fun K' hK => ?_) ?_
        · rw [if_pos (by rfl)]
          go_simp
          refine hK.out _ _ (hY30.alloc _) ?_
          clear hK
          try simp only [Go.Act.put, List.setIfInBounds_toArray, List.set_cons_zero, List.set_cons_succ]
          obtain ⟨Y35, eY35⟩ : ∃ Y, Y = Y30.alloc (.cells #[.int .u16 0, .string ⟨#[]⟩] 44) := ⟨_, rfl⟩
          rw [← eY35]
          have hY35 : Touch [] V Y35 := by rw [eY35]; exact hY30.alloc _
          have gY35 : Touch [] Y30 Y35 := by rw [eY35]; exact (Touch.refl _ _).alloc _
          have A12_35 := gY35.keep A12_30 (by simp)
          have A13_35 : Y35.heap[Y30.heap.size]? = some (.cells #[.int .u16 0, .string ⟨#[]⟩] 44 (0, 0)) := by rw [eY35]; exact heap_alloc_new _ _
          clear eY35
          refine wpH_ready (rs := [4]) (by kernel_rfl) (by simp) ?_
          refine AllH.cons (o := { dst := some 45, op := Op.call { callee := Callee.value (Operand.func 12), args := #[Operand.tmp 41, Operand.tmp 44], argTypes := #[31, 44] }, type := 45, pos := _, after := #[{ on := 0, ground := Ground.data }, { on := 3, ground := Ground.data }, { on := 3, ground := Ground.chain }], guard := none }) rfl (fun K' hK => ?_) ?_
          · rw [if_pos (by rfl)]
            go_simp
            refine (HU.out _ (R1.out.keep hY35)).mono ?_
            rintro e Y36 ⟨a5, n5, c5, rfl, r36, gY36, fr36⟩
            have hY36 := hY35.trans' gY36
            have A12_36 := gY36.keep A12_35 (by simp)
            have A13_36 := gY36.keep A13_35 (by simp)
            have lv36 : V.heap.size ≤ Y30.heap.size := hY30.size
            have nee : ∀ g, (Value.slice a5 n5 c5).ownBlock = some g → g ≠ Y30.heap.size := fun g hg e => by
              rcases fr36 g hg with h | h
              · have := block_lt A13_35; omega
              · have := (R1.out.lt g h).2; omega
            refine hK.out _ _ hY36 ?_
            clear hK
            try simp only [Go.Act.put, List.setIfInBounds_toArray, List.set_cons_zero, List.set_cons_succ]
            refine wpH_take (i := 5) (v := .tuple #[.agg #[.int .i64 most, .slice a5 n5 c5], .agg #[.int .u16 G.1, .string G.2], .bool B, .int .i64 z]) (some 40) rfl rfl (by kernel_rfl) (by kernel_rfl) (by kernel_rfl) (fun _ _ _ h => h) (Or.inl ⟨by rfl, fun w' hS => (by go_simp)⟩) hY36 ?_
            try simp only [Go.Act.put, List.setIfInBounds_toArray, List.set_cons_zero, List.set_cons_succ]
            refine wpH_take (i := 6) (v := .agg #[.int .i64 most, .slice a5 n5 c5]) (some 46) rfl rfl (by kernel_rfl) (by kernel_rfl) (by kernel_rfl) (fun _ _ _ h => h) (Or.inl ⟨by rfl, fun w' hS => (by go_simp)⟩) hY36 ?_
            try simp only [Go.Act.put, List.setIfInBounds_toArray, List.set_cons_zero, List.set_cons_succ]
            refine wpH_take (i := 7) (v := .agg #[.int .u16 G.1, .string G.2]) (some 47) rfl rfl (by kernel_rfl) (by kernel_rfl) (by kernel_rfl) (fun _ _ _ h => h) (Or.inl ⟨by rfl, fun w' hS => (by go_simp)⟩) hY36 ?_
            try simp only [Go.Act.put, List.setIfInBounds_toArray, List.set_cons_zero, List.set_cons_succ]
            refine wpH_take (i := 8) (v := .bool B) (some 48) rfl rfl (by kernel_rfl) (by kernel_rfl) (by kernel_rfl) (fun _ _ _ h => h) (Or.inl ⟨by rfl, fun w' hS => (by go_simp)⟩) hY36 ?_
            try simp only [Go.Act.put, List.setIfInBounds_toArray, List.set_cons_zero, List.set_cons_succ]
            refine wpH_take (i := 9) (v := .int .i64 z) (some 49) rfl rfl (by kernel_rfl) (by kernel_rfl) (by kernel_rfl) (fun _ _ _ h => h) (Or.inl ⟨by rfl, fun w' hS => (by go_simp)⟩) hY36 ?_
            try simp only [Go.Act.put, List.setIfInBounds_toArray, List.set_cons_zero, List.set_cons_succ]
            refine wpH_ready (rs := [12]) (by kernel_rfl) (by simp) ?_
            refine AllH.cons (o := { dst := none, op := Op.store 31 (Operand.tmp 12) (Operand.tmp 46), type := 0, pos := _, after := #[{ on := 10, ground := Ground.data }, { on := 6, ground := Ground.data }, { on := 4, ground := Ground.chain }, { on := 0, ground := Ground.phase }, { on := 1, ground := Ground.phase }, { on := 2, ground := Ground.phase }, { on := 3, ground := Ground.phase }, { on := 4, ground := Ground.phase }, { on := 5, ground := Ground.phase }, { on := 6, ground := Ground.phase }, { on := 7, ground := Ground.textOnly Departure.lateStores }, { on := 8, ground := Ground.textOnly Departure.lateStores }, { on := 9, ground := Ground.textOnly Departure.lateStores }, { on := 10, ground := Ground.phase }, { on := 11, ground := Ground.phase }], guard := none }) rfl (fun K' hK => ?_) ?_
            · rw [if_pos (by rfl)]
              have lb37 : V.heap.size ≤ Y0.heap.size := hY0.size
              have c37_0 : Y36.cell? ⟨Y0.heap.size, 0, none⟩ = some (.int .i64 0) := by simp [World.cell?, A12_36]
              have f37_0 : Y36.frozen? ⟨Y0.heap.size, 0, none⟩ = false := by simp [World.frozen?, A12_36]
              have c37_1 : Y36.cell? ⟨Y0.heap.size, 1, none⟩ = some (.slice none 0 0) := by simp [World.cell?, A12_36]
              have f37_1 : Y36.frozen? ⟨Y0.heap.size, 1, none⟩ = false := by simp [World.frozen?, A12_36]
              go_simp
              refine hK.out _ _ ((hY36.setCell (Or.inr lb37) _).setCell (Or.inr lb37) _) ?_
              clear hK
              try simp only [Go.Act.put, List.setIfInBounds_toArray, List.set_cons_zero, List.set_cons_succ]
              obtain ⟨Y37, eY37⟩ : ∃ Y, Y = ((Y36.setCell ⟨Y0.heap.size, 0, none⟩ (.int .i64 most)).setCell ⟨Y0.heap.size, 1, none⟩ (.slice a5 n5 c5)) := ⟨_, rfl⟩
              rw [← eY37]
              have hY37 : Touch [] V Y37 := by rw [eY37]; exact ((hY36.setCell (Or.inr lb37) _).setCell (Or.inr lb37) _)
              have gY37 : Touch [Y0.heap.size] Y36 Y37 := by rw [eY37]; exact (((Touch.refl _ _).setCell (by simp) _).setCell (by simp) _)
              have A12_37 : Y37.heap[Y0.heap.size]? = some (.cells #[.int .i64 most, .slice a5 n5 c5] 31 (0, 0)) := by rw [eY37]; exact bset (bset A12_36 _) _
              have A13_37 := gY37.keep A13_36 (fun hh => by simp only [List.mem_singleton] at hh; rw [hh, A12_36] at A13_36; simp at A13_36)
              have r37 : RK Y37 _ _ := own_touch r36 gY37 (fun g hg hh => by
                obtain ⟨cs, hcs⟩ := own_type r36 hg
                simp only [List.mem_singleton] at hh
                rw [hh, A12_36] at hcs
                simp at hcs)
              clear eY37 c37_0 f37_0 c37_1 f37_1
              refine wpH_ready (rs := [13]) (by kernel_rfl) (by simp) ?_
              refine AllH.cons (o := { dst := none, op := Op.store 44 (Operand.tmp 13) (Operand.tmp 47), type := 0, pos := _, after := #[{ on := 11, ground := Ground.data }, { on := 7, ground := Ground.data }, { on := 12, ground := Ground.chain }, { on := 0, ground := Ground.phase }, { on := 1, ground := Ground.phase }, { on := 2, ground := Ground.phase }, { on := 3, ground := Ground.phase }, { on := 4, ground := Ground.phase }, { on := 5, ground := Ground.phase }, { on := 6, ground := Ground.phase }, { on := 7, ground := Ground.phase }, { on := 8, ground := Ground.textOnly Departure.lateStores }, { on := 9, ground := Ground.textOnly Departure.lateStores }, { on := 10, ground := Ground.phase }, { on := 11, ground := Ground.phase }, { on := 12, ground := Ground.phase }], guard := none }) rfl (fun K' hK => ?_) ?_
              · rw [if_pos (by rfl)]
                have lb38 : V.heap.size ≤ Y30.heap.size := hY30.size
                have c38_0 : Y37.cell? ⟨Y30.heap.size, 0, none⟩ = some (.int .u16 0) := by simp [World.cell?, A13_37]
                have f38_0 : Y37.frozen? ⟨Y30.heap.size, 0, none⟩ = false := by simp [World.frozen?, A13_37]
                have c38_1 : Y37.cell? ⟨Y30.heap.size, 1, none⟩ = some (.string ⟨#[]⟩) := by simp [World.cell?, A13_37]
                have f38_1 : Y37.frozen? ⟨Y30.heap.size, 1, none⟩ = false := by simp [World.frozen?, A13_37]
                go_simp
                refine hK.out _ _ ((hY37.setCell (Or.inr lb38) _).setCell (Or.inr lb38) _) ?_
                clear hK
                try simp only [Go.Act.put, List.setIfInBounds_toArray, List.set_cons_zero, List.set_cons_succ]
                obtain ⟨Y38, eY38⟩ : ∃ Y, Y = ((Y37.setCell ⟨Y30.heap.size, 0, none⟩ (.int .u16 G.1)).setCell ⟨Y30.heap.size, 1, none⟩ (.string G.2)) := ⟨_, rfl⟩
                rw [← eY38]
                have hY38 : Touch [] V Y38 := by rw [eY38]; exact ((hY37.setCell (Or.inr lb38) _).setCell (Or.inr lb38) _)
                have gY38 : Touch [Y30.heap.size] Y37 Y38 := by rw [eY38]; exact (((Touch.refl _ _).setCell (by simp) _).setCell (by simp) _)
                have A13_38 : Y38.heap[Y30.heap.size]? = some (.cells #[.int .u16 G.1, .string G.2] 44 (0, 0)) := by rw [eY38]; exact bset (bset A13_37 _) _
                have A12_38 := gY38.keep A12_37 (fun hh => by simp only [List.mem_singleton] at hh; rw [hh, A13_37] at A12_37; simp at A12_37)
                have r38 : RK Y38 _ _ := own_touch r37 gY38 (fun g hg hh => by simp only [List.mem_singleton] at hh; exact nee g hg hh)
                clear eY38 c38_0 f38_0 c38_1 f38_1
                refine wpH_take (i := 14) (v := .bool B) (some 14) rfl rfl (by kernel_rfl) (by kernel_rfl) (by kernel_rfl) (fun _ _ _ h => h) (Or.inl ⟨by rfl, fun w' hS => (by go_simp)⟩) hY38 ?_
                try simp only [Go.Act.put, List.setIfInBounds_toArray, List.set_cons_zero, List.set_cons_succ]
                refine wpH_take (i := 15) (v := .int .i64 z) (some 15) rfl rfl (by kernel_rfl) (by kernel_rfl) (by kernel_rfl) (fun _ _ _ h => h) (Or.inl ⟨by rfl, fun w' hS => (by go_simp)⟩) hY38 ?_
                try simp only [Go.Act.put, List.setIfInBounds_toArray, List.set_cons_zero, List.set_cons_succ]
                refine wpAnyH_done (by kernel_rfl) ?_ _
                go_wp2_with fail
                go_meet
                case rel => exact ⟨Y0.heap.size, Y30.heap.size, a5, n5, c5, rfl, rfl, rfl, rfl, A12_38, A13_38, r38, hY38, hY0.size, hY30.size⟩
              exact AllH.nil
            exact AllH.nil
          exact AllH.nil
        exact AllH.nil
      refine AllH.cons (o := { dst := some 13, op := Op.alloc 44, type := 0, pos := _, after := #[], guard := none }) rfl (fun K' hK => ?_) ?_
      · rw [if_pos (by rfl)]
        go_simp
        refine hK.out _ _ (hY29.alloc _) ?_
        clear hK
        try simp only [Go.Act.put, List.setIfInBounds_toArray, List.set_cons_zero, List.set_cons_succ]
        obtain ⟨Y39, eY39⟩ : ∃ Y, Y = Y29.alloc (.cells #[.int .u16 0, .string ⟨#[]⟩] 44) := ⟨_, rfl⟩
        rw [← eY39]
        have hY39 : Touch [] V Y39 := by rw [eY39]; exact hY29.alloc _
        have gY39 : Touch [] Y29 Y39 := by rw [eY39]; exact (Touch.refl _ _).alloc _
        have A12_39 := gY39.keep A12_29 (by simp)
        have A13_39 : Y39.heap[Y29.heap.size]? = some (.cells #[.int .u16 0, .string ⟨#[]⟩] 44 (0, 0)) := by rw [eY39]; exact heap_alloc_new _ _
        clear eY39
        refine wpH_ready (rs := [3]) (by kernel_rfl) (by simp) ?_
        refine AllH.cons (o := { dst := some 44, op := Op.call { callee := Callee.value (Operand.func 14), args := #[Operand.tmp 43], argTypes := #[36] }, type := 44, pos := _, after := #[{ on := 2, ground := Ground.data }], guard := none }) rfl (fun K' hK => ?_) ?_
        · rw [if_pos (by rfl)]
          go_simp
          refine (HR _).out.mono ?_
          rintro e Y40 ⟨rfl, gY40⟩
          have hY40 := hY39.trans' gY40
          have A12_40 := gY40.keep A12_39 (by simp)
          have A13_40 := gY40.keep A13_39 (by simp)
          refine hK.out _ _ hY40 ?_
          clear hK
          try simp only [Go.Act.put, List.setIfInBounds_toArray, List.set_cons_zero, List.set_cons_succ]
          refine wpH_ready (rs := [4]) (by kernel_rfl) (by simp) ?_
          refine AllH.cons (o := { dst := some 45, op := Op.call { callee := Callee.value (Operand.func 12), args := #[Operand.tmp 41, Operand.tmp 44], argTypes := #[31, 44] }, type := 45, pos := _, after := #[{ on := 0, ground := Ground.data }, { on := 3, ground := Ground.data }, { on := 3, ground := Ground.chain }], guard := none }) rfl (fun K' hK => ?_) ?_
          · rw [if_pos (by rfl)]
            go_simp
            refine (HU.out _ (R1.out.keep hY40)).mono ?_
            rintro e Y41 ⟨a5, n5, c5, rfl, r41, gY41, fr41⟩
            have hY41 := hY40.trans' gY41
            have A12_41 := gY41.keep A12_40 (by simp)
            have A13_41 := gY41.keep A13_40 (by simp)
            have lv41 : V.heap.size ≤ Y29.heap.size := hY29.size
            have nee : ∀ g, (Value.slice a5 n5 c5).ownBlock = some g → g ≠ Y29.heap.size := fun g hg e => by
              rcases fr41 g hg with h | h
              · have := block_lt A13_40; omega
              · have := (R1.out.lt g h).2; omega
            refine hK.out _ _ hY41 ?_
            clear hK
            try simp only [Go.Act.put, List.setIfInBounds_toArray, List.set_cons_zero, List.set_cons_succ]
            refine wpH_take (i := 5) (v := .tuple #[.agg #[.int .i64 most, .slice a5 n5 c5], .agg #[.int .u16 G.1, .string G.2], .bool B, .int .i64 z]) (some 40) rfl rfl (by kernel_rfl) (by kernel_rfl) (by kernel_rfl) (fun _ _ _ h => h) (Or.inl ⟨by rfl, fun w' hS => (by go_simp)⟩) hY41 ?_
            try simp only [Go.Act.put, List.setIfInBounds_toArray, List.set_cons_zero, List.set_cons_succ]
            refine wpH_take (i := 6) (v := .agg #[.int .i64 most, .slice a5 n5 c5]) (some 46) rfl rfl (by kernel_rfl) (by kernel_rfl) (by kernel_rfl) (fun _ _ _ h => h) (Or.inl ⟨by rfl, fun w' hS => (by go_simp)⟩) hY41 ?_
            try simp only [Go.Act.put, List.setIfInBounds_toArray, List.set_cons_zero, List.set_cons_succ]
            refine wpH_take (i := 7) (v := .agg #[.int .u16 G.1, .string G.2]) (some 47) rfl rfl (by kernel_rfl) (by kernel_rfl) (by kernel_rfl) (fun _ _ _ h => h) (Or.inl ⟨by rfl, fun w' hS => (by go_simp)⟩) hY41 ?_
            try simp only [Go.Act.put, List.setIfInBounds_toArray, List.set_cons_zero, List.set_cons_succ]
            refine wpH_take (i := 8) (v := .bool B) (some 48) rfl rfl (by kernel_rfl) (by kernel_rfl) (by kernel_rfl) (fun _ _ _ h => h) (Or.inl ⟨by rfl, fun w' hS => (by go_simp)⟩) hY41 ?_
            try simp only [Go.Act.put, List.setIfInBounds_toArray, List.set_cons_zero, List.set_cons_succ]
            refine wpH_take (i := 9) (v := .int .i64 z) (some 49) rfl rfl (by kernel_rfl) (by kernel_rfl) (by kernel_rfl) (fun _ _ _ h => h) (Or.inl ⟨by rfl, fun w' hS => (by go_simp)⟩) hY41 ?_
            try simp only [Go.Act.put, List.setIfInBounds_toArray, List.set_cons_zero, List.set_cons_succ]
            refine wpH_ready (rs := [12]) (by kernel_rfl) (by simp) ?_
            refine AllH.cons (o := { dst := none, op := Op.store 31 (Operand.tmp 12) (Operand.tmp 46), type := 0, pos := _, after := #[{ on := 10, ground := Ground.data }, { on := 6, ground := Ground.data }, { on := 4, ground := Ground.chain }, { on := 0, ground := Ground.phase }, { on := 1, ground := Ground.phase }, { on := 2, ground := Ground.phase }, { on := 3, ground := Ground.phase }, { on := 4, ground := Ground.phase }, { on := 5, ground := Ground.phase }, { on := 6, ground := Ground.phase }, { on := 7, ground := Ground.textOnly Departure.lateStores }, { on := 8, ground := Ground.textOnly Departure.lateStores }, { on := 9, ground := Ground.textOnly Departure.lateStores }, { on := 10, ground := Ground.phase }, { on := 11, ground := Ground.phase }], guard := none }) rfl (fun K' hK => ?_) ?_
            · rw [if_pos (by rfl)]
              have lb42 : V.heap.size ≤ Y0.heap.size := hY0.size
              have c42_0 : Y41.cell? ⟨Y0.heap.size, 0, none⟩ = some (.int .i64 0) := by simp [World.cell?, A12_41]
              have f42_0 : Y41.frozen? ⟨Y0.heap.size, 0, none⟩ = false := by simp [World.frozen?, A12_41]
              have c42_1 : Y41.cell? ⟨Y0.heap.size, 1, none⟩ = some (.slice none 0 0) := by simp [World.cell?, A12_41]
              have f42_1 : Y41.frozen? ⟨Y0.heap.size, 1, none⟩ = false := by simp [World.frozen?, A12_41]
              go_simp
              refine hK.out _ _ ((hY41.setCell (Or.inr lb42) _).setCell (Or.inr lb42) _) ?_
              clear hK
              try simp only [Go.Act.put, List.setIfInBounds_toArray, List.set_cons_zero, List.set_cons_succ]
              obtain ⟨Y42, eY42⟩ : ∃ Y, Y = ((Y41.setCell ⟨Y0.heap.size, 0, none⟩ (.int .i64 most)).setCell ⟨Y0.heap.size, 1, none⟩ (.slice a5 n5 c5)) := ⟨_, rfl⟩
              rw [← eY42]
              have hY42 : Touch [] V Y42 := by rw [eY42]; exact ((hY41.setCell (Or.inr lb42) _).setCell (Or.inr lb42) _)
              have gY42 : Touch [Y0.heap.size] Y41 Y42 := by rw [eY42]; exact (((Touch.refl _ _).setCell (by simp) _).setCell (by simp) _)
              have A12_42 : Y42.heap[Y0.heap.size]? = some (.cells #[.int .i64 most, .slice a5 n5 c5] 31 (0, 0)) := by rw [eY42]; exact bset (bset A12_41 _) _
              have A13_42 := gY42.keep A13_41 (fun hh => by simp only [List.mem_singleton] at hh; rw [hh, A12_41] at A13_41; simp at A13_41)
              have r42 : RK Y42 _ _ := own_touch r41 gY42 (fun g hg hh => by
                obtain ⟨cs, hcs⟩ := own_type r41 hg
                simp only [List.mem_singleton] at hh
                rw [hh, A12_41] at hcs
                simp at hcs)
              clear eY42 c42_0 f42_0 c42_1 f42_1
              refine wpH_ready (rs := [13]) (by kernel_rfl) (by simp) ?_
              refine AllH.cons (o := { dst := none, op := Op.store 44 (Operand.tmp 13) (Operand.tmp 47), type := 0, pos := _, after := #[{ on := 11, ground := Ground.data }, { on := 7, ground := Ground.data }, { on := 12, ground := Ground.chain }, { on := 0, ground := Ground.phase }, { on := 1, ground := Ground.phase }, { on := 2, ground := Ground.phase }, { on := 3, ground := Ground.phase }, { on := 4, ground := Ground.phase }, { on := 5, ground := Ground.phase }, { on := 6, ground := Ground.phase }, { on := 7, ground := Ground.phase }, { on := 8, ground := Ground.textOnly Departure.lateStores }, { on := 9, ground := Ground.textOnly Departure.lateStores }, { on := 10, ground := Ground.phase }, { on := 11, ground := Ground.phase }, { on := 12, ground := Ground.phase }], guard := none }) rfl (fun K' hK => ?_) ?_
              · rw [if_pos (by rfl)]
                have lb43 : V.heap.size ≤ Y29.heap.size := hY29.size
                have c43_0 : Y42.cell? ⟨Y29.heap.size, 0, none⟩ = some (.int .u16 0) := by simp [World.cell?, A13_42]
                have f43_0 : Y42.frozen? ⟨Y29.heap.size, 0, none⟩ = false := by simp [World.frozen?, A13_42]
                have c43_1 : Y42.cell? ⟨Y29.heap.size, 1, none⟩ = some (.string ⟨#[]⟩) := by simp [World.cell?, A13_42]
                have f43_1 : Y42.frozen? ⟨Y29.heap.size, 1, none⟩ = false := by simp [World.frozen?, A13_42]
                go_simp
                refine hK.out _ _ ((hY42.setCell (Or.inr lb43) _).setCell (Or.inr lb43) _) ?_
                clear hK
                try simp only [Go.Act.put, List.setIfInBounds_toArray, List.set_cons_zero, List.set_cons_succ]
                obtain ⟨Y43, eY43⟩ : ∃ Y, Y = ((Y42.setCell ⟨Y29.heap.size, 0, none⟩ (.int .u16 G.1)).setCell ⟨Y29.heap.size, 1, none⟩ (.string G.2)) := ⟨_, rfl⟩
                rw [← eY43]
                have hY43 : Touch [] V Y43 := by rw [eY43]; exact ((hY42.setCell (Or.inr lb43) _).setCell (Or.inr lb43) _)
                have gY43 : Touch [Y29.heap.size] Y42 Y43 := by rw [eY43]; exact (((Touch.refl _ _).setCell (by simp) _).setCell (by simp) _)
                have A13_43 : Y43.heap[Y29.heap.size]? = some (.cells #[.int .u16 G.1, .string G.2] 44 (0, 0)) := by rw [eY43]; exact bset (bset A13_42 _) _
                have A12_43 := gY43.keep A12_42 (fun hh => by simp only [List.mem_singleton] at hh; rw [hh, A13_42] at A12_42; simp at A12_42)
                have r43 : RK Y43 _ _ := own_touch r42 gY43 (fun g hg hh => by simp only [List.mem_singleton] at hh; exact nee g hg hh)
                clear eY43 c43_0 f43_0 c43_1 f43_1
                refine wpH_take (i := 14) (v := .bool B) (some 14) rfl rfl (by kernel_rfl) (by kernel_rfl) (by kernel_rfl) (fun _ _ _ h => h) (Or.inl ⟨by rfl, fun w' hS => (by go_simp)⟩) hY43 ?_
                try simp only [Go.Act.put, List.setIfInBounds_toArray, List.set_cons_zero, List.set_cons_succ]
                refine wpH_take (i := 15) (v := .int .i64 z) (some 15) rfl rfl (by kernel_rfl) (by kernel_rfl) (by kernel_rfl) (fun _ _ _ h => h) (Or.inl ⟨by rfl, fun w' hS => (by go_simp)⟩) hY43 ?_
                try simp only [Go.Act.put, List.setIfInBounds_toArray, List.set_cons_zero, List.set_cons_succ]
                refine wpAnyH_done (by kernel_rfl) ?_ _
                go_wp2_with fail
                go_meet
                case rel => exact ⟨Y0.heap.size, Y29.heap.size, a5, n5, c5, rfl, rfl, rfl, rfl, A12_43, A13_43, r43, hY43, hY0.size, hY29.size⟩
              exact AllH.nil
            exact AllH.nil
          exact AllH.nil
        exact AllH.nil
      exact AllH.nil
    refine AllH.cons (o := { dst := some 13, op := Op.alloc 44, type := 0, pos := _, after := #[], guard := none }) rfl (fun K' hK => ?_) ?_
    · rw [if_pos (by rfl)]
      go_simp
      refine hK.out _ _ (hY0.alloc _) ?_
      clear hK
      try simp only [Go.Act.put, List.setIfInBounds_toArray, List.set_cons_zero, List.set_cons_succ]
      obtain ⟨Y44, eY44⟩ : ∃ Y, Y = Y0.alloc (.cells #[.int .u16 0, .string ⟨#[]⟩] 44) := ⟨_, rfl⟩
      rw [← eY44]
      have hY44 : Touch [] V Y44 := by rw [eY44]; exact hY0.alloc _
      have gY44 : Touch [] Y0 Y44 := by rw [eY44]; exact (Touch.refl _ _).alloc _
      have A13_44 : Y44.heap[Y0.heap.size]? = some (.cells #[.int .u16 0, .string ⟨#[]⟩] 44 (0, 0)) := by rw [eY44]; exact heap_alloc_new _ _
      clear eY44
      refine wpH_ready (rs := [3, 10]) (by kernel_rfl) (by simp) ?_
      refine AllH.cons (o := { dst := some 44, op := Op.call { callee := Callee.value (Operand.func 14), args := #[Operand.tmp 43], argTypes := #[36] }, type := 44, pos := _, after := #[{ on := 2, ground := Ground.data }], guard := none }) rfl (fun K' hK => ?_) ?_
      · rw [if_pos (by rfl)]
        go_simp
        refine (HR _).out.mono ?_
        rintro e Y45 ⟨rfl, gY45⟩
        have hY45 := hY44.trans' gY45
        have A13_45 := gY45.keep A13_44 (by simp)
        refine hK.out _ _ hY45 ?_
        clear hK
        try simp only [Go.Act.put, List.setIfInBounds_toArray, List.set_cons_zero, List.set_cons_succ]
        refine wpH_ready (rs := [4, 10]) (by kernel_rfl) (by simp) ?_
        refine AllH.cons (o := { dst := some 45, op := Op.call { callee := Callee.value (Operand.func 12), args := #[Operand.tmp 41, Operand.tmp 44], argTypes := #[31, 44] }, type := 45, pos := _, after := #[{ on := 0, ground := Ground.data }, { on := 3, ground := Ground.data }, { on := 3, ground := Ground.chain }], guard := none }) rfl (fun K' hK => ?_) ?_
        · rw [if_pos (by rfl)]
          go_simp
          refine (HU.out _ (R1.out.keep hY45)).mono ?_
          rintro e Y46 ⟨a5, n5, c5, rfl, r46, gY46, fr46⟩
          have hY46 := hY45.trans' gY46
          have A13_46 := gY46.keep A13_45 (by simp)
          have lv46 : V.heap.size ≤ Y0.heap.size := hY0.size
          have nee : ∀ g, (Value.slice a5 n5 c5).ownBlock = some g → g ≠ Y0.heap.size := fun g hg e => by
            rcases fr46 g hg with h | h
            · have := block_lt A13_45; omega
            · have := (R1.out.lt g h).2; omega
          refine hK.out _ _ hY46 ?_
          clear hK
          try simp only [Go.Act.put, List.setIfInBounds_toArray, List.set_cons_zero, List.set_cons_succ]
          refine wpH_take (i := 5) (v := .tuple #[.agg #[.int .i64 most, .slice a5 n5 c5], .agg #[.int .u16 G.1, .string G.2], .bool B, .int .i64 z]) (some 40) rfl rfl (by kernel_rfl) (by kernel_rfl) (by kernel_rfl) (fun _ _ _ h => h) (Or.inl ⟨by rfl, fun w' hS => (by go_simp)⟩) hY46 ?_
          try simp only [Go.Act.put, List.setIfInBounds_toArray, List.set_cons_zero, List.set_cons_succ]
          refine wpH_take (i := 6) (v := .agg #[.int .i64 most, .slice a5 n5 c5]) (some 46) rfl rfl (by kernel_rfl) (by kernel_rfl) (by kernel_rfl) (fun _ _ _ h => h) (Or.inl ⟨by rfl, fun w' hS => (by go_simp)⟩) hY46 ?_
          try simp only [Go.Act.put, List.setIfInBounds_toArray, List.set_cons_zero, List.set_cons_succ]
          refine wpH_take (i := 7) (v := .agg #[.int .u16 G.1, .string G.2]) (some 47) rfl rfl (by kernel_rfl) (by kernel_rfl) (by kernel_rfl) (fun _ _ _ h => h) (Or.inl ⟨by rfl, fun w' hS => (by go_simp)⟩) hY46 ?_
          try simp only [Go.Act.put, List.setIfInBounds_toArray, List.set_cons_zero, List.set_cons_succ]
          refine wpH_take (i := 8) (v := .bool B) (some 48) rfl rfl (by kernel_rfl) (by kernel_rfl) (by kernel_rfl) (fun _ _ _ h => h) (Or.inl ⟨by rfl, fun w' hS => (by go_simp)⟩) hY46 ?_
          try simp only [Go.Act.put, List.setIfInBounds_toArray, List.set_cons_zero, List.set_cons_succ]
          refine wpH_take (i := 9) (v := .int .i64 z) (some 49) rfl rfl (by kernel_rfl) (by kernel_rfl) (by kernel_rfl) (fun _ _ _ h => h) (Or.inl ⟨by rfl, fun w' hS => (by go_simp)⟩) hY46 ?_
          try simp only [Go.Act.put, List.setIfInBounds_toArray, List.set_cons_zero, List.set_cons_succ]
          refine wpH_ready (rs := [10]) (by kernel_rfl) (by simp) ?_
          refine AllH.cons (o := { dst := some 12, op := Op.alloc 31, type := 0, pos := _, after := #[], guard := none }) rfl (fun K' hK => ?_) ?_
          · rw [if_pos (by rfl)]
            go_simp
            refine hK.out _ _ (hY46.alloc _) ?_
            clear hK
            try simp only [Go.Act.put, List.setIfInBounds_toArray, List.set_cons_zero, List.set_cons_succ]
            obtain ⟨Y47, eY47⟩ : ∃ Y, Y = Y46.alloc (.cells #[.int .i64 0, .slice none 0 0] 31) := ⟨_, rfl⟩
            rw [← eY47]
            have hY47 : Touch [] V Y47 := by rw [eY47]; exact hY46.alloc _
            have gY47 : Touch [] Y46 Y47 := by rw [eY47]; exact (Touch.refl _ _).alloc _
            have A13_47 := gY47.keep A13_46 (by simp)
            have A12_47 : Y47.heap[Y46.heap.size]? = some (.cells #[.int .i64 0, .slice none 0 0] 31 (0, 0)) := by rw [eY47]; exact heap_alloc_new _ _
            have r47 := RK.keep r46 gY47
            clear eY47
            refine wpH_ready (rs := [12]) (by kernel_rfl) (by simp) ?_
            refine AllH.cons (o := { dst := none, op := Op.store 31 (Operand.tmp 12) (Operand.tmp 46), type := 0, pos := _, after := #[{ on := 10, ground := Ground.data }, { on := 6, ground := Ground.data }, { on := 4, ground := Ground.chain }, { on := 0, ground := Ground.phase }, { on := 1, ground := Ground.phase }, { on := 2, ground := Ground.phase }, { on := 3, ground := Ground.phase }, { on := 4, ground := Ground.phase }, { on := 5, ground := Ground.phase }, { on := 6, ground := Ground.phase }, { on := 7, ground := Ground.textOnly Departure.lateStores }, { on := 8, ground := Ground.textOnly Departure.lateStores }, { on := 9, ground := Ground.textOnly Departure.lateStores }, { on := 10, ground := Ground.phase }, { on := 11, ground := Ground.phase }], guard := none }) rfl (fun K' hK => ?_) ?_
            · rw [if_pos (by rfl)]
              have lb48 : V.heap.size ≤ Y46.heap.size := hY46.size
              have c48_0 : Y47.cell? ⟨Y46.heap.size, 0, none⟩ = some (.int .i64 0) := by simp [World.cell?, A12_47]
              have f48_0 : Y47.frozen? ⟨Y46.heap.size, 0, none⟩ = false := by simp [World.frozen?, A12_47]
              have c48_1 : Y47.cell? ⟨Y46.heap.size, 1, none⟩ = some (.slice none 0 0) := by simp [World.cell?, A12_47]
              have f48_1 : Y47.frozen? ⟨Y46.heap.size, 1, none⟩ = false := by simp [World.frozen?, A12_47]
              go_simp
              refine hK.out _ _ ((hY47.setCell (Or.inr lb48) _).setCell (Or.inr lb48) _) ?_
              clear hK
              try simp only [Go.Act.put, List.setIfInBounds_toArray, List.set_cons_zero, List.set_cons_succ]
              obtain ⟨Y48, eY48⟩ : ∃ Y, Y = ((Y47.setCell ⟨Y46.heap.size, 0, none⟩ (.int .i64 most)).setCell ⟨Y46.heap.size, 1, none⟩ (.slice a5 n5 c5)) := ⟨_, rfl⟩
              rw [← eY48]
              have hY48 : Touch [] V Y48 := by rw [eY48]; exact ((hY47.setCell (Or.inr lb48) _).setCell (Or.inr lb48) _)
              have gY48 : Touch [Y46.heap.size] Y47 Y48 := by rw [eY48]; exact (((Touch.refl _ _).setCell (by simp) _).setCell (by simp) _)
              have A12_48 : Y48.heap[Y46.heap.size]? = some (.cells #[.int .i64 most, .slice a5 n5 c5] 31 (0, 0)) := by rw [eY48]; exact bset (bset A12_47 _) _
              have A13_48 := gY48.keep A13_47 (fun hh => by simp only [List.mem_singleton] at hh; rw [hh, A12_47] at A13_47; simp at A13_47)
              have r48 : RK Y48 _ _ := own_touch r47 gY48 (fun g hg hh => by
                obtain ⟨cs, hcs⟩ := own_type r47 hg
                simp only [List.mem_singleton] at hh
                rw [hh, A12_47] at hcs
                simp at hcs)
              clear eY48 c48_0 f48_0 c48_1 f48_1
              refine wpH_ready (rs := [13]) (by kernel_rfl) (by simp) ?_
              refine AllH.cons (o := { dst := none, op := Op.store 44 (Operand.tmp 13) (Operand.tmp 47), type := 0, pos := _, after := #[{ on := 11, ground := Ground.data }, { on := 7, ground := Ground.data }, { on := 12, ground := Ground.chain }, { on := 0, ground := Ground.phase }, { on := 1, ground := Ground.phase }, { on := 2, ground := Ground.phase }, { on := 3, ground := Ground.phase }, { on := 4, ground := Ground.phase }, { on := 5, ground := Ground.phase }, { on := 6, ground := Ground.phase }, { on := 7, ground := Ground.phase }, { on := 8, ground := Ground.textOnly Departure.lateStores }, { on := 9, ground := Ground.textOnly Departure.lateStores }, { on := 10, ground := Ground.phase }, { on := 11, ground := Ground.phase }, { on := 12, ground := Ground.phase }], guard := none }) rfl (fun K' hK => ?_) ?_
              · rw [if_pos (by rfl)]
                have lb49 : V.heap.size ≤ Y0.heap.size := hY0.size
                have c49_0 : Y48.cell? ⟨Y0.heap.size, 0, none⟩ = some (.int .u16 0) := by simp [World.cell?, A13_48]
                have f49_0 : Y48.frozen? ⟨Y0.heap.size, 0, none⟩ = false := by simp [World.frozen?, A13_48]
                have c49_1 : Y48.cell? ⟨Y0.heap.size, 1, none⟩ = some (.string ⟨#[]⟩) := by simp [World.cell?, A13_48]
                have f49_1 : Y48.frozen? ⟨Y0.heap.size, 1, none⟩ = false := by simp [World.frozen?, A13_48]
                go_simp
                refine hK.out _ _ ((hY48.setCell (Or.inr lb49) _).setCell (Or.inr lb49) _) ?_
                clear hK
                try simp only [Go.Act.put, List.setIfInBounds_toArray, List.set_cons_zero, List.set_cons_succ]
                obtain ⟨Y49, eY49⟩ : ∃ Y, Y = ((Y48.setCell ⟨Y0.heap.size, 0, none⟩ (.int .u16 G.1)).setCell ⟨Y0.heap.size, 1, none⟩ (.string G.2)) := ⟨_, rfl⟩
                rw [← eY49]
                have hY49 : Touch [] V Y49 := by rw [eY49]; exact ((hY48.setCell (Or.inr lb49) _).setCell (Or.inr lb49) _)
                have gY49 : Touch [Y0.heap.size] Y48 Y49 := by rw [eY49]; exact (((Touch.refl _ _).setCell (by simp) _).setCell (by simp) _)
                have A13_49 : Y49.heap[Y0.heap.size]? = some (.cells #[.int .u16 G.1, .string G.2] 44 (0, 0)) := by rw [eY49]; exact bset (bset A13_48 _) _
                have A12_49 := gY49.keep A12_48 (fun hh => by simp only [List.mem_singleton] at hh; rw [hh, A13_48] at A12_48; simp at A12_48)
                have r49 : RK Y49 _ _ := own_touch r48 gY49 (fun g hg hh => by simp only [List.mem_singleton] at hh; exact nee g hg hh)
                clear eY49 c49_0 f49_0 c49_1 f49_1
                refine wpH_take (i := 14) (v := .bool B) (some 14) rfl rfl (by kernel_rfl) (by kernel_rfl) (by kernel_rfl) (fun _ _ _ h => h) (Or.inl ⟨by rfl, fun w' hS => (by go_simp)⟩) hY49 ?_
                try simp only [Go.Act.put, List.setIfInBounds_toArray, List.set_cons_zero, List.set_cons_succ]
                refine wpH_take (i := 15) (v := .int .i64 z) (some 15) rfl rfl (by kernel_rfl) (by kernel_rfl) (by kernel_rfl) (fun _ _ _ h => h) (Or.inl ⟨by rfl, fun w' hS => (by go_simp)⟩) hY49 ?_
                try simp only [Go.Act.put, List.setIfInBounds_toArray, List.set_cons_zero, List.set_cons_succ]
                refine wpAnyH_done (by kernel_rfl) ?_ _
                go_wp2_with fail
                go_meet
                case rel => exact ⟨Y46.heap.size, Y0.heap.size, a5, n5, c5, rfl, rfl, rfl, rfl, A12_49, A13_49, r49, hY49, hY46.size, hY0.size⟩
              exact AllH.nil
            exact AllH.nil
          exact AllH.nil
        refine AllH.cons (o := { dst := some 12, op := Op.alloc 31, type := 0, pos := _, after := #[], guard := none }) rfl (fun K' hK => ?_) ?_
        · rw [if_pos (by rfl)]
          go_simp
          refine hK.out _ _ (hY45.alloc _) ?_
          clear hK
          try simp only [Go.Act.put, List.setIfInBounds_toArray, List.set_cons_zero, List.set_cons_succ]
          obtain ⟨Y50, eY50⟩ : ∃ Y, Y = Y45.alloc (.cells #[.int .i64 0, .slice none 0 0] 31) := ⟨_, rfl⟩
          rw [← eY50]
          have hY50 : Touch [] V Y50 := by rw [eY50]; exact hY45.alloc _
          have gY50 : Touch [] Y45 Y50 := by rw [eY50]; exact (Touch.refl _ _).alloc _
          have A13_50 := gY50.keep A13_45 (by simp)
          have A12_50 : Y50.heap[Y45.heap.size]? = some (.cells #[.int .i64 0, .slice none 0 0] 31 (0, 0)) := by rw [eY50]; exact heap_alloc_new _ _
          clear eY50
          refine wpH_ready (rs := [4]) (by kernel_rfl) (by simp) ?_
          refine AllH.cons (o := { dst := some 45, op := Op.call { callee := Callee.value (Operand.func 12), args := #[Operand.tmp 41, Operand.tmp 44], argTypes := #[31, 44] }, type := 45, pos := _, after := #[{ on := 0, ground := Ground.data }, { on := 3, ground := Ground.data }, { on := 3, ground := Ground.chain }], guard := none }) rfl (fun K' hK => ?_) ?_
          · rw [if_pos (by rfl)]
            go_simp
            refine (HU.out _ (R1.out.keep hY50)).mono ?_
            rintro e Y51 ⟨a5, n5, c5, rfl, r51, gY51, fr51⟩
            have hY51 := hY50.trans' gY51
            have A13_51 := gY51.keep A13_50 (by simp)
            have A12_51 := gY51.keep A12_50 (by simp)
            have lv51 : V.heap.size ≤ Y0.heap.size := hY0.size
            have nee : ∀ g, (Value.slice a5 n5 c5).ownBlock = some g → g ≠ Y0.heap.size := fun g hg e => by
              rcases fr51 g hg with h | h
              · have := block_lt A13_50; omega
              · have := (R1.out.lt g h).2; omega
            refine hK.out _ _ hY51 ?_
            clear hK
            try simp only [Go.Act.put, List.setIfInBounds_toArray, List.set_cons_zero, List.set_cons_succ]
            refine wpH_take (i := 5) (v := .tuple #[.agg #[.int .i64 most, .slice a5 n5 c5], .agg #[.int .u16 G.1, .string G.2], .bool B, .int .i64 z]) (some 40) rfl rfl (by kernel_rfl) (by kernel_rfl) (by kernel_rfl) (fun _ _ _ h => h) (Or.inl ⟨by rfl, fun w' hS => (by go_simp)⟩) hY51 ?_
            try simp only [Go.Act.put, List.setIfInBounds_toArray, List.set_cons_zero, List.set_cons_succ]
            refine wpH_take (i := 6) (v := .agg #[.int .i64 most, .slice a5 n5 c5]) (some 46) rfl rfl (by kernel_rfl) (by kernel_rfl) (by kernel_rfl) (fun _ _ _ h => h) (Or.inl ⟨by rfl, fun w' hS => (by go_simp)⟩) hY51 ?_
            try simp only [Go.Act.put, List.setIfInBounds_toArray, List.set_cons_zero, List.set_cons_succ]
            refine wpH_take (i := 7) (v := .agg #[.int .u16 G.1, .string G.2]) (some 47) rfl rfl (by kernel_rfl) (by kernel_rfl) (by kernel_rfl) (fun _ _ _ h => h) (Or.inl ⟨by rfl, fun w' hS => (by go_simp)⟩) hY51 ?_
            try simp only [Go.Act.put, List.setIfInBounds_toArray, List.set_cons_zero, List.set_cons_succ]
            refine wpH_take (i := 8) (v := .bool B) (some 48) rfl rfl (by kernel_rfl) (by kernel_rfl) (by kernel_rfl) (fun _ _ _ h => h) (Or.inl ⟨by rfl, fun w' hS => (by go_simp)⟩) hY51 ?_
            try simp only [Go.Act.put, List.setIfInBounds_toArray, List.set_cons_zero, List.set_cons_succ]
            refine wpH_take (i := 9) (v := .int .i64 z) (some 49) rfl rfl (by kernel_rfl) (by kernel_rfl) (by kernel_rfl) (fun _ _ _ h => h) (Or.inl ⟨by rfl, fun w' hS => (by go_simp)⟩) hY51 ?_
            try simp only [Go.Act.put, List.setIfInBounds_toArray, List.set_cons_zero, List.set_cons_succ]
            refine wpH_ready (rs := [12]) (by kernel_rfl) (by simp) ?_
            refine AllH.cons (o := { dst := none, op := Op.store 31 (Operand.tmp 12) (Operand.tmp 46), type := 0, pos := _, after := #[{ on := 10, ground := Ground.data }, { on := 6, ground := Ground.data }, { on := 4, ground := Ground.chain }, { on := 0, ground := Ground.phase }, { on := 1, ground := Ground.phase }, { on := 2, ground := Ground.phase }, { on := 3, ground := Ground.phase }, { on := 4, ground := Ground.phase }, { on := 5, ground := Ground.phase }, { on := 6, ground := Ground.phase }, { on := 7, ground := Ground.textOnly Departure.lateStores }, { on := 8, ground := Ground.textOnly Departure.lateStores }, { on := 9, ground := Ground.textOnly Departure.lateStores }, { on := 10, ground := Ground.phase }, { on := 11, ground := Ground.phase }], guard := none }) rfl (fun K' hK => ?_) ?_
            · rw [if_pos (by rfl)]
              have lb52 : V.heap.size ≤ Y45.heap.size := hY45.size
              have c52_0 : Y51.cell? ⟨Y45.heap.size, 0, none⟩ = some (.int .i64 0) := by simp [World.cell?, A12_51]
              have f52_0 : Y51.frozen? ⟨Y45.heap.size, 0, none⟩ = false := by simp [World.frozen?, A12_51]
              have c52_1 : Y51.cell? ⟨Y45.heap.size, 1, none⟩ = some (.slice none 0 0) := by simp [World.cell?, A12_51]
              have f52_1 : Y51.frozen? ⟨Y45.heap.size, 1, none⟩ = false := by simp [World.frozen?, A12_51]
              go_simp
              refine hK.out _ _ ((hY51.setCell (Or.inr lb52) _).setCell (Or.inr lb52) _) ?_
              clear hK
              try simp only [Go.Act.put, List.setIfInBounds_toArray, List.set_cons_zero, List.set_cons_succ]
              obtain ⟨Y52, eY52⟩ : ∃ Y, Y = ((Y51.setCell ⟨Y45.heap.size, 0, none⟩ (.int .i64 most)).setCell ⟨Y45.heap.size, 1, none⟩ (.slice a5 n5 c5)) := ⟨_, rfl⟩
              rw [← eY52]
              have hY52 : Touch [] V Y52 := by rw [eY52]; exact ((hY51.setCell (Or.inr lb52) _).setCell (Or.inr lb52) _)
              have gY52 : Touch [Y45.heap.size] Y51 Y52 := by rw [eY52]; exact (((Touch.refl _ _).setCell (by simp) _).setCell (by simp) _)
              have A12_52 : Y52.heap[Y45.heap.size]? = some (.cells #[.int .i64 most, .slice a5 n5 c5] 31 (0, 0)) := by rw [eY52]; exact bset (bset A12_51 _) _
              have A13_52 := gY52.keep A13_51 (fun hh => by simp only [List.mem_singleton] at hh; rw [hh, A12_51] at A13_51; simp at A13_51)
              have r52 : RK Y52 _ _ := own_touch r51 gY52 (fun g hg hh => by
                obtain ⟨cs, hcs⟩ := own_type r51 hg
                simp only [List.mem_singleton] at hh
                rw [hh, A12_51] at hcs
                simp at hcs)
              clear eY52 c52_0 f52_0 c52_1 f52_1
              refine wpH_ready (rs := [13]) (by kernel_rfl) (by simp) ?_
              refine AllH.cons (o := { dst := none, op := Op.store 44 (Operand.tmp 13) (Operand.tmp 47), type := 0, pos := _, after := #[{ on := 11, ground := Ground.data }, { on := 7, ground := Ground.data }, { on := 12, ground := Ground.chain }, { on := 0, ground := Ground.phase }, { on := 1, ground := Ground.phase }, { on := 2, ground := Ground.phase }, { on := 3, ground := Ground.phase }, { on := 4, ground := Ground.phase }, { on := 5, ground := Ground.phase }, { on := 6, ground := Ground.phase }, { on := 7, ground := Ground.phase }, { on := 8, ground := Ground.textOnly Departure.lateStores }, { on := 9, ground := Ground.textOnly Departure.lateStores }, { on := 10, ground := Ground.phase }, { on := 11, ground := Ground.phase }, { on := 12, ground := Ground.phase }], guard := none }) rfl (fun K' hK => ?_) ?_
              · rw [if_pos (by rfl)]
                have lb53 : V.heap.size ≤ Y0.heap.size := hY0.size
                have c53_0 : Y52.cell? ⟨Y0.heap.size, 0, none⟩ = some (.int .u16 0) := by simp [World.cell?, A13_52]
                have f53_0 : Y52.frozen? ⟨Y0.heap.size, 0, none⟩ = false := by simp [World.frozen?, A13_52]
                have c53_1 : Y52.cell? ⟨Y0.heap.size, 1, none⟩ = some (.string ⟨#[]⟩) := by simp [World.cell?, A13_52]
                have f53_1 : Y52.frozen? ⟨Y0.heap.size, 1, none⟩ = false := by simp [World.frozen?, A13_52]
                go_simp
                refine hK.out _ _ ((hY52.setCell (Or.inr lb53) _).setCell (Or.inr lb53) _) ?_
                clear hK
                try simp only [Go.Act.put, List.setIfInBounds_toArray, List.set_cons_zero, List.set_cons_succ]
                obtain ⟨Y53, eY53⟩ : ∃ Y, Y = ((Y52.setCell ⟨Y0.heap.size, 0, none⟩ (.int .u16 G.1)).setCell ⟨Y0.heap.size, 1, none⟩ (.string G.2)) := ⟨_, rfl⟩
                rw [← eY53]
                have hY53 : Touch [] V Y53 := by rw [eY53]; exact ((hY52.setCell (Or.inr lb53) _).setCell (Or.inr lb53) _)
                have gY53 : Touch [Y0.heap.size] Y52 Y53 := by rw [eY53]; exact (((Touch.refl _ _).setCell (by simp) _).setCell (by simp) _)
                have A13_53 : Y53.heap[Y0.heap.size]? = some (.cells #[.int .u16 G.1, .string G.2] 44 (0, 0)) := by rw [eY53]; exact bset (bset A13_52 _) _
                have A12_53 := gY53.keep A12_52 (fun hh => by simp only [List.mem_singleton] at hh; rw [hh, A13_52] at A12_52; simp at A12_52)
                have r53 : RK Y53 _ _ := own_touch r52 gY53 (fun g hg hh => by simp only [List.mem_singleton] at hh; exact nee g hg hh)
                clear eY53 c53_0 f53_0 c53_1 f53_1
                refine wpH_take (i := 14) (v := .bool B) (some 14) rfl rfl (by kernel_rfl) (by kernel_rfl) (by kernel_rfl) (fun _ _ _ h => h) (Or.inl ⟨by rfl, fun w' hS => (by go_simp)⟩) hY53 ?_
                try simp only [Go.Act.put, List.setIfInBounds_toArray, List.set_cons_zero, List.set_cons_succ]
                refine wpH_take (i := 15) (v := .int .i64 z) (some 15) rfl rfl (by kernel_rfl) (by kernel_rfl) (by kernel_rfl) (fun _ _ _ h => h) (Or.inl ⟨by rfl, fun w' hS => (by go_simp)⟩) hY53 ?_
                try simp only [Go.Act.put, List.setIfInBounds_toArray, List.set_cons_zero, List.set_cons_succ]
                refine wpAnyH_done (by kernel_rfl) ?_ _
                go_wp2_with fail
                go_meet
                case rel => exact ⟨Y45.heap.size, Y0.heap.size, a5, n5, c5, rfl, rfl, rfl, rfl, A12_53, A13_53, r53, hY53, hY45.size, hY0.size⟩
              exact AllH.nil
            exact AllH.nil
          exact AllH.nil
        exact AllH.nil
      refine AllH.cons (o := { dst := some 12, op := Op.alloc 31, type := 0, pos := _, after := #[], guard := none }) rfl (fun K' hK => ?_) ?_
      · rw [if_pos (by rfl)]
        go_simp
        refine hK.out _ _ (hY44.alloc _) ?_
        clear hK
        try simp only [Go.Act.put, List.setIfInBounds_toArray, List.set_cons_zero, List.set_cons_succ]
        obtain ⟨Y54, eY54⟩ : ∃ Y, Y = Y44.alloc (.cells #[.int .i64 0, .slice none 0 0] 31) := ⟨_, rfl⟩
        rw [← eY54]
        have hY54 : Touch [] V Y54 := by rw [eY54]; exact hY44.alloc _
        have gY54 : Touch [] Y44 Y54 := by rw [eY54]; exact (Touch.refl _ _).alloc _
        have A13_54 := gY54.keep A13_44 (by simp)
        have A12_54 : Y54.heap[Y44.heap.size]? = some (.cells #[.int .i64 0, .slice none 0 0] 31 (0, 0)) := by rw [eY54]; exact heap_alloc_new _ _
        clear eY54
        refine wpH_ready (rs := [3]) (by kernel_rfl) (by simp) ?_
        refine AllH.cons (o := { dst := some 44, op := Op.call { callee := Callee.value (Operand.func 14), args := #[Operand.tmp 43], argTypes := #[36] }, type := 44, pos := _, after := #[{ on := 2, ground := Ground.data }], guard := none }) rfl (fun K' hK => ?_) ?_
        · rw [if_pos (by rfl)]
          go_simp
          refine (HR _).out.mono ?_
          rintro e Y55 ⟨rfl, gY55⟩
          have hY55 := hY54.trans' gY55
          have A13_55 := gY55.keep A13_54 (by simp)
          have A12_55 := gY55.keep A12_54 (by simp)
          refine hK.out _ _ hY55 ?_
          clear hK
          try simp only [Go.Act.put, List.setIfInBounds_toArray, List.set_cons_zero, List.set_cons_succ]
          refine wpH_ready (rs := [4]) (by kernel_rfl) (by simp) ?_
          refine AllH.cons (o := { dst := some 45, op := Op.call { callee := Callee.value (Operand.func 12), args := #[Operand.tmp 41, Operand.tmp 44], argTypes := #[31, 44] }, type := 45, pos := _, after := #[{ on := 0, ground := Ground.data }, { on := 3, ground := Ground.data }, { on := 3, ground := Ground.chain }], guard := none }) rfl (fun K' hK => ?_) ?_
          · rw [if_pos (by rfl)]
            go_simp
            refine (HU.out _ (R1.out.keep hY55)).mono ?_
            rintro e Y56 ⟨a5, n5, c5, rfl, r56, gY56, fr56⟩
            have hY56 := hY55.trans' gY56
            have A13_56 := gY56.keep A13_55 (by simp)
            have A12_56 := gY56.keep A12_55 (by simp)
            have lv56 : V.heap.size ≤ Y0.heap.size := hY0.size
            have nee : ∀ g, (Value.slice a5 n5 c5).ownBlock = some g → g ≠ Y0.heap.size := fun g hg e => by
              rcases fr56 g hg with h | h
              · have := block_lt A13_55; omega
              · have := (R1.out.lt g h).2; omega
            refine hK.out _ _ hY56 ?_
            clear hK
            try simp only [Go.Act.put, List.setIfInBounds_toArray, List.set_cons_zero, List.set_cons_succ]
            refine wpH_take (i := 5) (v := .tuple #[.agg #[.int .i64 most, .slice a5 n5 c5], .agg #[.int .u16 G.1, .string G.2], .bool B, .int .i64 z]) (some 40) rfl rfl (by kernel_rfl) (by kernel_rfl) (by kernel_rfl) (fun _ _ _ h => h) (Or.inl ⟨by rfl, fun w' hS => (by go_simp)⟩) hY56 ?_
            try simp only [Go.Act.put, List.setIfInBounds_toArray, List.set_cons_zero, List.set_cons_succ]
            refine wpH_take (i := 6) (v := .agg #[.int .i64 most, .slice a5 n5 c5]) (some 46) rfl rfl (by kernel_rfl) (by kernel_rfl) (by kernel_rfl) (fun _ _ _ h => h) (Or.inl ⟨by rfl, fun w' hS => (by go_simp)⟩) hY56 ?_
            try simp only [Go.Act.put, List.setIfInBounds_toArray, List.set_cons_zero, List.set_cons_succ]
            refine wpH_take (i := 7) (v := .agg #[.int .u16 G.1, .string G.2]) (some 47) rfl rfl (by kernel_rfl) (by kernel_rfl) (by kernel_rfl) (fun _ _ _ h => h) (Or.inl ⟨by rfl, fun w' hS => (by go_simp)⟩) hY56 ?_
            try simp only [Go.Act.put, List.setIfInBounds_toArray, List.set_cons_zero, List.set_cons_succ]
            refine wpH_take (i := 8) (v := .bool B) (some 48) rfl rfl (by kernel_rfl) (by kernel_rfl) (by kernel_rfl) (fun _ _ _ h => h) (Or.inl ⟨by rfl, fun w' hS => (by go_simp)⟩) hY56 ?_
            try simp only [Go.Act.put, List.setIfInBounds_toArray, List.set_cons_zero, List.set_cons_succ]
            refine wpH_take (i := 9) (v := .int .i64 z) (some 49) rfl rfl (by kernel_rfl) (by kernel_rfl) (by kernel_rfl) (fun _ _ _ h => h) (Or.inl ⟨by rfl, fun w' hS => (by go_simp)⟩) hY56 ?_
            try simp only [Go.Act.put, List.setIfInBounds_toArray, List.set_cons_zero, List.set_cons_succ]
            refine wpH_ready (rs := [12]) (by kernel_rfl) (by simp) ?_
            refine AllH.cons (o := { dst := none, op := Op.store 31 (Operand.tmp 12) (Operand.tmp 46), type := 0, pos := _, after := #[{ on := 10, ground := Ground.data }, { on := 6, ground := Ground.data }, { on := 4, ground := Ground.chain }, { on := 0, ground := Ground.phase }, { on := 1, ground := Ground.phase }, { on := 2, ground := Ground.phase }, { on := 3, ground := Ground.phase }, { on := 4, ground := Ground.phase }, { on := 5, ground := Ground.phase }, { on := 6, ground := Ground.phase }, { on := 7, ground := Ground.textOnly Departure.lateStores }, { on := 8, ground := Ground.textOnly Departure.lateStores }, { on := 9, ground := Ground.textOnly Departure.lateStores }, { on := 10, ground := Ground.phase }, { on := 11, ground := Ground.phase }], guard := none }) rfl (fun K' hK => ?_) ?_
            · rw [if_pos (by rfl)]
              have lb57 : V.heap.size ≤ Y44.heap.size := hY44.size
              have c57_0 : Y56.cell? ⟨Y44.heap.size, 0, none⟩ = some (.int .i64 0) := by simp [World.cell?, A12_56]
              have f57_0 : Y56.frozen? ⟨Y44.heap.size, 0, none⟩ = false := by simp [World.frozen?, A12_56]
              have c57_1 : Y56.cell? ⟨Y44.heap.size, 1, none⟩ = some (.slice none 0 0) := by simp [World.cell?, A12_56]
              have f57_1 : Y56.frozen? ⟨Y44.heap.size, 1, none⟩ = false := by simp [World.frozen?, A12_56]
              go_simp
              refine hK.out _ _ ((hY56.setCell (Or.inr lb57) _).setCell (Or.inr lb57) _) ?_
              clear hK
              try simp only [Go.Act.put, List.setIfInBounds_toArray, List.set_cons_zero, List.set_cons_succ]
              obtain ⟨Y57, eY57⟩ : ∃ Y, Y = ((Y56.setCell ⟨Y44.heap.size, 0, none⟩ (.int .i64 most)).setCell ⟨Y44.heap.size, 1, none⟩ (.slice a5 n5 c5)) := ⟨_, rfl⟩
              rw [← eY57]
              have hY57 : Touch [] V Y57 := by rw [eY57]; exact ((hY56.setCell (Or.inr lb57) _).setCell (Or.inr lb57) _)
              have gY57 : Touch [Y44.heap.size] Y56 Y57 := by rw [eY57]; exact (((Touch.refl _ _).setCell (by simp) _).setCell (by simp) _)
              have A12_57 : Y57.heap[Y44.heap.size]? = some (.cells #[.int .i64 most, .slice a5 n5 c5] 31 (0, 0)) := by rw [eY57]; exact bset (bset A12_56 _) _
              have A13_57 := gY57.keep A13_56 (fun hh => by simp only [List.mem_singleton] at hh; rw [hh, A12_56] at A13_56; simp at A13_56)
              have r57 : RK Y57 _ _ := own_touch r56 gY57 (fun g hg hh => by
                obtain ⟨cs, hcs⟩ := own_type r56 hg
                simp only [List.mem_singleton] at hh
                rw [hh, A12_56] at hcs
                simp at hcs)
              clear eY57 c57_0 f57_0 c57_1 f57_1
              refine wpH_ready (rs := [13]) (by kernel_rfl) (by simp) ?_
              refine AllH.cons (o := { dst := none, op := Op.store 44 (Operand.tmp 13) (Operand.tmp 47), type := 0, pos := _, after := #[{ on := 11, ground := Ground.data }, { on := 7, ground := Ground.data }, { on := 12, ground := Ground.chain }, { on := 0, ground := Ground.phase }, { on := 1, ground := Ground.phase }, { on := 2, ground := Ground.phase }, { on := 3, ground := Ground.phase }, { on := 4, ground := Ground.phase }, { on := 5, ground := Ground.phase }, { on := 6, ground := Ground.phase }, { on := 7, ground := Ground.phase }, { on := 8, ground := Ground.textOnly Departure.lateStores }, { on := 9, ground := Ground.textOnly Departure.lateStores }, { on := 10, ground := Ground.phase }, { on := 11, ground := Ground.phase }, { on := 12, ground := Ground.phase }], guard := none }) rfl (fun K' hK => ?_) ?_
              · rw [if_pos (by rfl)]
                have lb58 : V.heap.size ≤ Y0.heap.size := hY0.size
                have c58_0 : Y57.cell? ⟨Y0.heap.size, 0, none⟩ = some (.int .u16 0) := by simp [World.cell?, A13_57]
                have f58_0 : Y57.frozen? ⟨Y0.heap.size, 0, none⟩ = false := by simp [World.frozen?, A13_57]
                have c58_1 : Y57.cell? ⟨Y0.heap.size, 1, none⟩ = some (.string ⟨#[]⟩) := by simp [World.cell?, A13_57]
                have f58_1 : Y57.frozen? ⟨Y0.heap.size, 1, none⟩ = false := by simp [World.frozen?, A13_57]
                go_simp
                refine hK.out _ _ ((hY57.setCell (Or.inr lb58) _).setCell (Or.inr lb58) _) ?_
                clear hK
                try simp only [Go.Act.put, List.setIfInBounds_toArray, List.set_cons_zero, List.set_cons_succ]
                obtain ⟨Y58, eY58⟩ : ∃ Y, Y = ((Y57.setCell ⟨Y0.heap.size, 0, none⟩ (.int .u16 G.1)).setCell ⟨Y0.heap.size, 1, none⟩ (.string G.2)) := ⟨_, rfl⟩
                rw [← eY58]
                have hY58 : Touch [] V Y58 := by rw [eY58]; exact ((hY57.setCell (Or.inr lb58) _).setCell (Or.inr lb58) _)
                have gY58 : Touch [Y0.heap.size] Y57 Y58 := by rw [eY58]; exact (((Touch.refl _ _).setCell (by simp) _).setCell (by simp) _)
                have A13_58 : Y58.heap[Y0.heap.size]? = some (.cells #[.int .u16 G.1, .string G.2] 44 (0, 0)) := by rw [eY58]; exact bset (bset A13_57 _) _
                have A12_58 := gY58.keep A12_57 (fun hh => by simp only [List.mem_singleton] at hh; rw [hh, A13_57] at A12_57; simp at A12_57)
                have r58 : RK Y58 _ _ := own_touch r57 gY58 (fun g hg hh => by simp only [List.mem_singleton] at hh; exact nee g hg hh)
                clear eY58 c58_0 f58_0 c58_1 f58_1
                refine wpH_take (i := 14) (v := .bool B) (some 14) rfl rfl (by kernel_rfl) (by kernel_rfl) (by kernel_rfl) (fun _ _ _ h => h) (Or.inl ⟨by rfl, fun w' hS => (by go_simp)⟩) hY58 ?_
                try simp only [Go.Act.put, List.setIfInBounds_toArray, List.set_cons_zero, List.set_cons_succ]
                refine wpH_take (i := 15) (v := .int .i64 z) (some 15) rfl rfl (by kernel_rfl) (by kernel_rfl) (by kernel_rfl) (fun _ _ _ h => h) (Or.inl ⟨by rfl, fun w' hS => (by go_simp)⟩) hY58 ?_
                try simp only [Go.Act.put, List.setIfInBounds_toArray, List.set_cons_zero, List.set_cons_succ]
                refine wpAnyH_done (by kernel_rfl) ?_ _
                go_wp2_with fail
                go_meet
                case rel => exact ⟨Y44.heap.size, Y0.heap.size, a5, n5, c5, rfl, rfl, rfl, rfl, A12_58, A13_58, r58, hY58, hY44.size, hY0.size⟩
              exact AllH.nil
            exact AllH.nil
          exact AllH.nil
        exact AllH.nil
      exact AllH.nil
    exact AllH.nil
  case rest =>
    obtain ⟨b12, b13, a5, n5, c5, rfl, rfl, rfl, rfl, HC⟩ := hcut
    have hcc := HC.out
    obtain ⟨h12, h13, r5, t5, l12, l13⟩ := hcc
    have S5 := hid (S1.out.keep t5 (fun _ e => by cases e))
    have h9 := t5.keep B9.out (by simp)
    have lz := S1.out.sz
    have CE := hid (fun W (t : Touch [] wc W) => on_end C1.out (t5.trans' t) (S5.out.keep t (fun _ e => by cases e)) (r5.keep t) most)
    have lv9 : w.heap.size + 3 ≤ b9 := lw1
    have sA : ∀ w', Touch [w.heap.size + 1 + 1] wc w' → w'.cell? ⟨b12, 0, none⟩ = some (.int .i64 most) := fun w' t => by have := t.keep h12 (fun hh => by simp only [List.mem_singleton] at hh; omega); simp [World.cell?, this]
    have sB : ∀ w', Touch [w.heap.size + 1 + 1] wc w' → w'.cell? ⟨b12, 1, none⟩ = some (.slice a5 n5 c5) := fun w' t => by have := t.keep h12 (fun hh => by simp only [List.mem_singleton] at hh; omega); simp [World.cell?, this]
    have sC : ∀ w', Touch [w.heap.size + 1 + 1] wc w' → w'.cell? ⟨b9, 0, none⟩ = some (.int .u16 G.1) := fun w' t => by have := t.keep h9 (fun hh => by simp only [List.mem_singleton] at hh; omega); simp [World.cell?, this]
    have sD : ∀ w', Touch [w.heap.size + 1 + 1] wc w' → w'.cell? ⟨b9, 1, none⟩ = some (.string G.2) := fun w' t => by have := t.keep h9 (fun hh => by simp only [List.mem_singleton] at hh; omega); simp [World.cell?, this]
    have sE : ∀ w', Touch [w.heap.size + 1 + 1] wc w' → w'.cell? ⟨b13, 0, none⟩ = some (.int .u16 G.1) := fun w' t => by have := t.keep h13 (fun hh => by simp only [List.mem_singleton] at hh; omega); simp [World.cell?, this]
    have sF : ∀ w', Touch [w.heap.size + 1 + 1] wc w' → w'.cell? ⟨b13, 1, none⟩ = some (.string G.2) := fun w' t => by have := t.keep h13 (fun hh => by simp only [List.mem_singleton] at hh; omega); simp [World.cell?, this]
    have nB : (B == B) = true := by simp
    clear h12 h13 h9 HC HR HU
    go_wp2
    refine wp_region_H (S := (fun w' => Touch [w.heap.size + 1 + 1] wc w')) (by kernel_rfl) ?_
    obtain ⟨Y0, eY0⟩ : ∃ Y, Y = wc.drew := ⟨_, rfl⟩
    rw [← eY0]
    have hY0 : Touch [w.heap.size + 1 + 1] wc Y0 := by rw [eY0]; exact (Touch.refl _ _).drew
    have k0 : Touch [] wc Y0 := by rw [eY0]; exact (Touch.refl _ _).drew
    clear eY0
    refine wpH_take (i := 0) (v := .pointer (some ⟨o, 0, none⟩)) (some 50) rfl rfl (by kernel_rfl) (by kernel_rfl) (by kernel_rfl) (fun _ _ _ h => h) (Or.inl ⟨by rfl, fun w' hS => (by go_simp)⟩) hY0 ?_
    try simp only [Go.Act.put, List.setIfInBounds_toArray, List.set_cons_zero, List.set_cons_succ]
    refine wpH_take (i := 1) (v := .agg #[.int .i64 most, .slice a5 n5 c5]) (some 51) rfl rfl (by kernel_rfl) (by kernel_rfl) (by kernel_rfl) (fun _ _ _ h => h) (Or.inl ⟨by rfl, fun w' hS => (by have z0 := sA _ hS; have z1 := sB _ hS; go_simp)⟩) hY0 ?_
    try simp only [Go.Act.put, List.setIfInBounds_toArray, List.set_cons_zero, List.set_cons_succ]
    refine wpH_take (i := 2) (v := .agg #[.int .u16 G.1, .string G.2]) (some 52) rfl rfl (by kernel_rfl) (by kernel_rfl) (by kernel_rfl) (fun _ _ _ h => h) (Or.inl ⟨by rfl, fun w' hS => (by have z0 := sC _ hS; have z1 := sD _ hS; go_simp)⟩) hY0 ?_
    try simp only [Go.Act.put, List.setIfInBounds_toArray, List.set_cons_zero, List.set_cons_succ]
    refine wpH_take (i := 4) (v := .agg #[.int .u16 G.1, .string G.2]) (some 54) rfl rfl (by kernel_rfl) (by kernel_rfl) (by kernel_rfl) (fun _ _ _ h => h) (Or.inl ⟨by rfl, fun w' hS => (by have z0 := sE _ hS; have z1 := sF _ hS; go_simp)⟩) hY0 ?_
    try simp only [Go.Act.put, List.setIfInBounds_toArray, List.set_cons_zero, List.set_cons_succ]
    refine wpH_ready (rs := [3]) (by kernel_rfl) (by simp) ?_
    refine AllH.cons (o := { dst := some 53, op := Op.call { callee := Callee.value (Operand.func 14), args := #[Operand.tmp 52], argTypes := #[36] }, type := 44, pos := _, after := #[{ on := 2, ground := Ground.data }], guard := none }) rfl (fun K' hK => ?_) ?_
    · rw [if_pos (by rfl)]
      go_simp
      refine (HG _).out.mono ?_
      rintro e Y1 ⟨rfl, gY1⟩
      have k1 := k0.trans' gY1
      have hY1 := hY0.trans' (gY1.mono (fun _ e => by cases e))
      refine hK.out _ _ hY1 ?_
      clear hK
      try simp only [Go.Act.put, List.setIfInBounds_toArray, List.set_cons_zero, List.set_cons_succ]
      refine wpH_take (i := 5) (v := .bool true) (some 55) rfl rfl (by kernel_rfl) (by kernel_rfl) (by kernel_rfl) (fun _ _ _ h => h) (Or.inl ⟨by rfl, fun w' hS => (by go_simp)⟩) hY1 ?_
      try simp only [Go.Act.put, List.setIfInBounds_toArray, List.set_cons_zero, List.set_cons_succ]
      refine wpH_take (i := 6) (v := .bool true) (some 56) rfl rfl (by kernel_rfl) (by kernel_rfl) (by kernel_rfl) (fun _ _ _ h => h) (Or.inl ⟨by rfl, fun w' hS => (by go_simp)⟩) hY1 ?_
      try simp only [Go.Act.put, List.setIfInBounds_toArray, List.set_cons_zero, List.set_cons_succ]
      refine wpH_take (i := 7) (v := .bool B) (some 57) rfl rfl (by kernel_rfl) (by kernel_rfl) (by kernel_rfl) (fun _ _ _ h => h) (Or.inl ⟨by rfl, fun w' hS => (by go_simp)⟩) hY1 ?_
      try simp only [Go.Act.put, List.setIfInBounds_toArray, List.set_cons_zero, List.set_cons_succ]
      refine wpH_take (i := 8) (v := .bool B) (some 58) rfl rfl (by kernel_rfl) (by kernel_rfl) (by kernel_rfl) (fun _ _ _ h => h) (Or.inl ⟨by rfl, fun w' hS => (by go_simp)⟩) hY1 ?_
      try simp only [Go.Act.put, List.setIfInBounds_toArray, List.set_cons_zero, List.set_cons_succ]
      refine wpH_take (i := 9) (v := .bool true) (some 59) rfl rfl (by kernel_rfl) (by kernel_rfl) (by kernel_rfl) (fun _ _ _ h => h) (Or.inl ⟨by rfl, fun w' hS => (by go_simp)⟩) hY1 ?_
      try simp only [Go.Act.put, List.setIfInBounds_toArray, List.set_cons_zero, List.set_cons_succ]
      refine wpH_take (i := 10) (v := .bool true) (some 60) rfl rfl (by kernel_rfl) (by kernel_rfl) (by kernel_rfl) (fun _ _ _ h => h) (Or.inl ⟨by rfl, fun w' hS => (by go_simp)⟩) hY1 ?_
      try simp only [Go.Act.put, List.setIfInBounds_toArray, List.set_cons_zero, List.set_cons_succ]
      refine wpH_take (i := 11) (v := .bool true) (some 61) rfl rfl (by kernel_rfl) (by kernel_rfl) (by kernel_rfl) (fun _ _ _ h => h) (Or.inl ⟨by rfl, fun w' hS => (by go_simp)⟩) hY1 ?_
      try simp only [Go.Act.put, List.setIfInBounds_toArray, List.set_cons_zero, List.set_cons_succ]
      refine wpH_take (i := 12) (v := .int .i64 z) (some 62) rfl rfl (by kernel_rfl) (by kernel_rfl) (by kernel_rfl) (fun _ _ _ h => h) (Or.inl ⟨by rfl, fun w' hS => (by go_simp)⟩) hY1 ?_
      try simp only [Go.Act.put, List.setIfInBounds_toArray, List.set_cons_zero, List.set_cons_succ]
      refine wpH_take (i := 13) (v := .int .i64 z) (some 63) rfl rfl (by kernel_rfl) (by kernel_rfl) (by kernel_rfl) (fun _ _ _ h => h) (Or.inl ⟨by rfl, fun w' hS => (by go_simp)⟩) hY1 ?_
      try simp only [Go.Act.put, List.setIfInBounds_toArray, List.set_cons_zero, List.set_cons_succ]
      refine wpH_take (i := 14) (v := .bool true) (some 64) rfl rfl (by kernel_rfl) (by kernel_rfl) (by kernel_rfl) (fun _ _ _ h => h) (Or.inl ⟨by rfl, fun w' hS => (by go_simp)⟩) hY1 ?_
      try simp only [Go.Act.put, List.setIfInBounds_toArray, List.set_cons_zero, List.set_cons_succ]
      refine wpH_take (i := 15) (v := .bool true) (some 65) rfl rfl (by kernel_rfl) (by kernel_rfl) (by kernel_rfl) (fun _ _ _ h => h) (Or.inl ⟨by rfl, fun w' hS => (by go_simp)⟩) hY1 ?_
      try simp only [Go.Act.put, List.setIfInBounds_toArray, List.set_cons_zero, List.set_cons_succ]
      refine wpH_take (i := 16) (v := .pointer (some ⟨o, 0, none⟩)) (some 6) rfl rfl (by kernel_rfl) (by kernel_rfl) (by kernel_rfl) (fun _ _ _ h => h) (Or.inl ⟨by rfl, fun w' hS => (by go_simp)⟩) hY1 ?_
      try simp only [Go.Act.put, List.setIfInBounds_toArray, List.set_cons_zero, List.set_cons_succ]
      refine wpH_ready (rs := [17]) (by kernel_rfl) (by simp) ?_
      refine AllH.cons (o := { dst := none, op := Op.store 31 (Operand.tmp 7) (Operand.tmp 51), type := 0, pos := _, after := #[{ on := 1, ground := Ground.data }, { on := 16, ground := Ground.chain }, { on := 0, ground := Ground.phase }, { on := 1, ground := Ground.phase }, { on := 2, ground := Ground.textOnly Departure.lateStores }, { on := 3, ground := Ground.textOnly Departure.lateStoresUnsure }, { on := 4, ground := Ground.textOnly Departure.lateStores }, { on := 5, ground := Ground.textOnly Departure.lateStores }, { on := 6, ground := Ground.textOnly Departure.lateStores }, { on := 7, ground := Ground.textOnly Departure.lateStores }, { on := 8, ground := Ground.textOnly Departure.lateStores }, { on := 9, ground := Ground.textOnly Departure.lateStores }, { on := 10, ground := Ground.textOnly Departure.lateStores }, { on := 11, ground := Ground.textOnly Departure.lateStores }, { on := 12, ground := Ground.textOnly Departure.lateStores }, { on := 13, ground := Ground.textOnly Departure.lateStores }, { on := 14, ground := Ground.textOnly Departure.lateStores }, { on := 15, ground := Ground.textOnly Departure.lateStores }, { on := 16, ground := Ground.phase }], guard := none }) rfl (fun K' hK => ?_) ?_
      · rw [if_pos (by rfl)]
        obtain ⟨e0, e1, e2, e3⟩ := (S5.out.keep k1 (fun _ e => by cases e)).r
        go_simp
        refine hK.out _ _ ((hY1.setCell (by simp) _).setCell (by simp) _) ?_
        clear hK
        try simp only [Go.Act.put, List.setIfInBounds_toArray, List.set_cons_zero, List.set_cons_succ]
        refine wpH_take (i := 18) (v := .bool true) (some 8) rfl rfl (by kernel_rfl) (by kernel_rfl) (by kernel_rfl) (fun _ _ _ h => h) (Or.inl ⟨by rfl, fun w' hS => (by go_simp)⟩) ((hY1.setCell (by simp) _).setCell (by simp) _) ?_
        try simp only [Go.Act.put, List.setIfInBounds_toArray, List.set_cons_zero, List.set_cons_succ]
        refine wpAnyH_done (by kernel_rfl) ?_ _
        have HE := hid (CE.out _ k1)
        go_wp2
        refine bodyPost_ret (v := .tuple #[.pointer (some ⟨o, 0, none⟩), .agg #[.int .i64 most, .slice a5 n5 c5], .bool true]) (by simp [results, Try.results9, go_sem, e0, e1]) rfl ⟨_, rfl, ?_⟩
        exact HE.out
      exact AllH.nil
    exact AllH.nil
end Go.Proofs.Ytjcdloijodfpgaa
