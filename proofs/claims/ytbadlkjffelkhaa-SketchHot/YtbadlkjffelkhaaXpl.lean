/- The contract of played: a sketch on which all was done, and the document's beside it; no conditions but those that it states. -/
import Derived.Test.YtbadlkjffelkhaaXpv
import Derived.Test.YtbadlkjffelkhaaAlh
namespace Go.Proofs.Ytbadlkjffelkhaa.Sk
open Go.RowKit Go.Maps Go.ChangeMaps
set_option maxRecDepth 100000
set_option linter.unusedVariables false
set_option linter.unusedSimpArgs false
section
variable {w : World} {a : Option Addr} {xs : List ActX} {c : Nat}
theorem played_no (r b : Int) (h : mayZ r b = false) (v : Value) : Calls Try.prog 8 #[.int .i64 r, .int .i64 b, v] w fun e w' => e = .returned (.tuple #[.pointer none, .agg zd, .bool true]) ∧ Touch [] w w' := by
  have hn : r < 1 ∨ 8 < r ∨ b < 0 ∨ 16 < b := by
    have : ¬ (1 ≤ r ∧ r ≤ 8 ∧ 0 ≤ b ∧ b ≤ 16) := fun e => by rw [(mayZ_iff r b).2 e] at h; cases h
    omega
  have HN := hid (fun w => new_no r b hn w)
  have HM := hid (fun w => may_ r b w)
  rw [h] at HM
  have HZ : Hid (∀ w1, Touch [] (w.alloc (.cells zd 29)) w1 → w1.cell? ⟨w.heap.size, 0, none⟩ = some (.int .i64 0) ∧ w1.cell? ⟨w.heap.size, 1, none⟩ = some (.slice none 0 0) ∧ w1.cell? ⟨w.heap.size, 2, none⟩ = some (.int .u64 0) ∧ (∀ j, w1.frozen? ⟨w.heap.size, j, none⟩ = false) ∧ Touch [] w (((w1.setCell ⟨w.heap.size, 0, none⟩ (.int .i64 0)).setCell ⟨w.heap.size, 1, none⟩ (.slice none 0 0)).setCell ⟨w.heap.size, 2, none⟩ (.int .u64 0))) := hid (fun w1 t1 => by
    have := t1.keep (heap_alloc_new w (.cells zd 29)) (by simp)
    have t0 : Touch [] w w1 := ((Touch.refl _ _).alloc _).trans' t1
    exact ⟨cell_at this rfl, cell_at this rfl, cell_at this rfl, froz_at this, ((t0.setCell (p := ⟨w.heap.size, 0, none⟩) (Or.inr (Nat.le_refl _)) _).setCell (p := ⟨w.heap.size, 1, none⟩) (Or.inr (Nat.le_refl _)) _).setCell (p := ⟨w.heap.size, 2, none⟩) (Or.inr (Nat.le_refl _)) _⟩)
  clear h hn
  unfold zd at *
  go_enter Try.func8, Try.ntmps8
  go_wp2_with (first
    | (go_at_call 22; refine (HN.out _).mono ?_; rintro e w1 ⟨rfl, t1⟩; obtain ⟨z0, z1, z2, z3, z4⟩ := HZ.out _ t1; have Z4 := hid z4; clear z4 t1)
    | (go_at_call 21; refine (HM.out _).mono ?_; rintro e w0 ⟨rfl, e0⟩; rw [e0]; clear e0))
  exact bodyPost_ret (v := .tuple #[.pointer none, .agg #[.int .i64 0, .slice none 0 0, .int .u64 0], .bool true]) (by simp [results, Try.results8, go_sem, z0, z1, z2]) rfl ⟨rfl, Z4.out⟩
set_option maxHeartbeats 16000000 in
theorem played_ok (r b : Int) (h : mayZ r b = true) (hA : AcS w a xs) (hl : xs.length ≤ 5000000000000) : Calls Try.prog 8 #[.int .i64 r, .int .i64 b, .slice a xs.length c] w fun e w' => ∃ v u, e = .returned (.tuple #[v, u, .bool true]) ∧ PlE v u w w' r.toNat b.toNat := by
  obtain ⟨h1, h2, h3, h4⟩ := (mayZ_iff r b).1 h
  have HN := hid (fun w => new_may r b h w)
  have HM := hid (fun w => may_ r b w)
  rw [h] at HM
  obtain ⟨R, rfl⟩ := Int.eq_ofNat_of_zero_le (show 0 ≤ r by omega)
  obtain ⟨Bt, rfl⟩ := Int.eq_ofNat_of_zero_le h3
  have HD := hid (fun w => rnew_ (w := w) R Bt (by omega) (by omega) (by omega))
  have hwf : Wf (newS R Bt) := newS_wf (by omega) (by omega) (by omega)
  rw [Int.toNat_natCast, Int.toNat_natCast] at *
  have HD : Hid (∀ w1, Calls Try.prog 28 #[.int .i64 (R : Nat), .int .i64 (Bt : Nat)] w1 fun e w2 => ∃ G cp Q Cp, e = .returned (.agg #[.int .i64 (Bt : Nat), .slice (some ⟨G, 0, none⟩) R cp, .int .u64 0]) ∧ Dq w2 0 G cp Q Cp (newS R Bt) ∧ Touch [] w1 w2) := hid (fun w1 => by
    refine (HD.out w1).mono ?_
    rintro e w2 ⟨v, rfl, G, cp, Q, Cp, rfl, d, t⟩
    exact ⟨G, cp, Q, Cp, rfl, d.base (Nat.zero_le _), t⟩)
  have HP0 : Hid (∀ w1 w2 s g cap G cp Q Cp, w.heap.size + 1 ≤ s → w.heap.size + 1 ≤ g → Kq w1 s g cap (newS R Bt) → Touch [] (w.alloc (.cells zd 29)) w1 → Dq w2 0 G cp Q Cp (newS R Bt) → Touch [] w1 w2 → Pv w (w2.alloc (.cells #[.int .i64 (Bt : Nat), .slice (some ⟨G, 0, none⟩) R cp, .int .u64 0] 29)) w2.heap.size s g cap (newS R Bt) (newS R Bt) G cp Q Cp) := hid (fun w1 w2 s g cap G cp Q Cp l1 l2 k t1 d t2 => by
    have t3 : Touch [] w2 (w2.alloc (.cells #[.int .i64 (Bt : Nat), .slice (some ⟨G, 0, none⟩) R cp, .int .u64 0] 29)) := (Touch.refl _ _).alloc _
    have t0 : Touch [] w (w.alloc (.cells zd 29)) := (Touch.refl _ _).alloc _
    refine ⟨((t0.trans' t1).trans' t2).trans' t3, (k.keep0 t2).keep0 t3, by omega, by omega, heap_alloc_new w2 _, d.keep0 t3, ((t1.trans' t2).trans' t3).keep (heap_alloc_new w _) (by simp), ?_, hwf⟩
    have := (t1.trans' t2).size
    simp at this
    omega)
  have HA := hid hA
  obtain ⟨n, hn⟩ : ∃ n, n = xs.length := ⟨_, rfl⟩
  have HNN := hid hn
  rw [← hn] at hl ⊢
  have HX0 : Hid ((newS R Bt).r = R ∧ (newS R Bt).b = Bt) := hid ⟨rfl, rfl⟩
  clear h h1 h2 h3 h4 hwf hA hn
  generalize newS R Bt = X0 at *
  unfold zd at *
  go_enter Try.func8, Try.ntmps8
  go_wp2_with (first
    | (go_at_call 22; refine (HN.out _).mono ?_; rintro e w1 ⟨s, g, cap, rfl, l1, l2, K1, T1⟩; have L := hid (And.intro l1 l2); have T1 := hid T1; have K1 := hid K1; clear l1 l2)
    | (go_at_call 21; refine (HM.out _).mono ?_; rintro e w0 ⟨rfl, e0⟩; rw [e0]; clear e0)
    | (go_at_call 28; refine (HD.out _).mono ?_; rintro e w2 ⟨G, cp, Q, Cp, rfl, D2, T2⟩; have PV := hid (HP0.out w1 w2 s g cap G cp Q Cp (by have := L.out.1; simpa using this) (by have := L.out.2; simpa using this) K1.out T1.out D2 T2); clear D2 T2))
  clear HN HM HD HP0 L K1 T1
  obtain ⟨mb, hmb⟩ : ∃ mb, mb = w2.heap.size := ⟨_, rfl⟩
  obtain ⟨W0, hW0⟩ : ∃ W0, W0 = w2.alloc (.cells #[.int .i64 (Bt : Nat), .slice (some ⟨G, 0, none⟩) R cp, .int .u64 0] 29) := ⟨_, rfl⟩
  rw [← hmb, ← hW0] at PV ⊢
  clear hmb hW0 T1 K1
  go_loopw [9, 12] (fun s9 s12 wr => ∃ (i s g cap : Nat) (X : S) (G cp : Nat) (Q Cp : Nat → Nat), i ≤ n ∧ i ≤ 60 ∧ s12 = .int .i64 i ∧ s9 = .pointer (some ⟨s, 0, none⟩) ∧ Hid (X.r = R ∧ X.b = Bt ∧ Pv w wr mb s g cap X X G cp Q Cp)) (fun _ s12 _ => 60 - (intOf s12).toNat)
  case atStart => exact ⟨0, s, g, cap, X0, G, cp, Q, Cp, Nat.zero_le _, Nat.zero_le _, rfl, rfl, hid ⟨HX0.out.1, HX0.out.2, PV.out⟩⟩
  case round =>
    clear PV HX0
    obtain ⟨i, s, g, cap, X, G, cp, Q, Cp, hin, hi6, rfl, rfl, HP⟩ := hrel
    by_cases hlt : i < n ∧ i < 60
    · obtain ⟨hi1, hi2⟩ := hlt
      have z1 : (i : Int) < (n : Int) := by omega
      have z2 : (i : Int) < 60 := by omega
      have hik : i < xs.length := by have := HNN.out; omega
      obtain ⟨hok, ab, off, rfl, c1, c2, c3⟩ := HA.out wr HP.out.2.2.t i hik
      obtain ⟨x, hx⟩ : ∃ x, x = xs[i] := ⟨_, rfl⟩
      rw [← hx] at hok c1 c2 c3
      have hkk : Ok x.k.key := KyA.okk hok.2
      obtain ⟨V, hV⟩ : ∃ V, V = wr.alloc (.cells #[.int .i64 x.kd, .int .u16 x.k.key.1, .string x.k.key.2] 45) := ⟨_, rfl⟩
      have TV : Touch [] wr V := by rw [hV]; exact (Touch.refl _ _).alloc _
      have hb : V.heap[wr.heap.size]? = some (.cells #[.int .i64 x.kd, .int .u16 x.k.key.1, .string x.k.key.2] 45 (0, 0)) := by rw [hV]; exact heap_alloc_new wr _
      obtain ⟨er, eb, P0⟩ := HP.out
      have P1 := P0.keep0 TV
      have HE := hid (And.intro er eb)
      have HP1 := hid P1
      have HBX := hid hb
      have y0 := cell_at (j := 0) (v := .int .i64 x.kd) hb rfl
      have y1 := cell_at (j := 1) (v := .int .u16 x.k.key.1) hb rfl
      have y2 := cell_at (j := 2) (v := .string x.k.key.2) hb rfl
      clear hok HA HP P0 P1 TV hb hx hik HNN er eb
      have c2' : wr.cell? ⟨ab, off + i * 3 + 1, none⟩ = some (.int .u16 x.k.key.1) := c2
      have c3' : wr.cell? ⟨ab, off + i * 3 + 2, none⟩ = some (.string x.k.key.2) := c3
      clear c2 c3
      generalize x.k.key = k at *
      generalize x.kd = kd at *
      obtain ⟨xb, hxb⟩ : ∃ xb, xb = wr.heap.size := ⟨_, rfl⟩
      have HXB := hid hxb
      rw [← hxb] at y0 y1 y2 HBX
      go_upto_region 11 with fail
      rw [← hV, ← hxb]
      clear hV hxb c1 c2' c3'
      by_cases k0 : kd = 0
      · subst k0
        have HAD := hid (add_any HP1.out.k hkk)
        have HST : Hid (∀ w3, Touch [s, g] V w3 → Kq w3 s g cap (addK X k) → (∀ w4, Touch [] w3 w4 → w4.cell? ⟨mb, 0, none⟩ = some (.int .i64 (X.b : Nat)) ∧ w4.cell? ⟨mb, 1, none⟩ = some (.slice (some ⟨G, 0, none⟩) X.r cp) ∧ w4.cell? ⟨mb, 2, none⟩ = some (.int .u64 (X.t : Nat)) ∧ w4.cell? ⟨xb, 1, none⟩ = some (.int .u16 k.1) ∧ w4.cell? ⟨xb, 2, none⟩ = some (.string k.2)) ∧ (∀ w4, Touch [] w3 w4 → Calls Try.prog 14 #[dv (.slice (some ⟨G, 0, none⟩) X.r cp) X, kv k] w4 fun e w5 => ∃ G' cp' Q' Cp', e = .returned (.tuple #[.agg #[.int .i64 ((addK X k).b : Nat), .slice (some ⟨G', 0, none⟩) (addK X k).r cp', .int .u64 ((addK X k).t : Nat)], .int .i64 (adV X k : Nat), .int .i64 (adE k : Nat)]) ∧ Dq w5 0 G' cp' Q' Cp' (addK X k) ∧ Touch [] w4 w5) ∧ (∀ wx G' cp' Q' Cp', Touch [] w3 wx → Dq wx 0 G' cp' Q' Cp' (addK X k) → (∀ j, wx.frozen? ⟨mb, j, none⟩ = false) ∧ (∃ a b c, wx.cell? ⟨mb, 0, none⟩ = some a ∧ wx.cell? ⟨mb, 1, none⟩ = some b ∧ wx.cell? ⟨mb, 2, none⟩ = some c) ∧ (addK X k).r = R ∧ (addK X k).b = Bt ∧ Pv w (((wx.setCell ⟨mb, 0, none⟩ (.int .i64 ((addK X k).b : Nat))).setCell ⟨mb, 1, none⟩ (.slice (some ⟨G', 0, none⟩) (addK X k).r cp')).setCell ⟨mb, 2, none⟩ (.int .u64 ((addK X k).t : Nat))) mb s g cap (addK X k) (addK X k) G' cp' Q' Cp')) := hid (fun w3 t3 k3 => by
          have p3 := HP1.out.prog t3 k3
          have hb3 := t3.keep HBX.out (kq_out HP1.out.k HBX.out (by decide) (by decide))
          refine ⟨fun w4 t4 => ?_, fun w4 t4 => ?_, fun wx G' cp' Q' Cp' tx dx => ?_⟩
          · have p4 := p3.keep0 t4
            exact ⟨p4.m0, p4.m1, p4.m2, cell_at (t4.keep hb3 (by simp)) rfl, cell_at (t4.keep hb3 (by simp)) rfl⟩
          · have p4 := p3.keep0 t4
            unfold adV adE addK
            by_cases h64 : k.2.size ≤ 64
            · rw [if_pos h64, if_pos h64, if_pos h64]
              refine (radd_ok p4.d p4.wx hkk h64).mono ?_
              rintro e w5 ⟨v, rfl, G', cp', Q', Cp', rfl, d, t⟩
              exact ⟨G', cp', Q', Cp', rfl, d.base (Nat.zero_le _), t⟩
            · rw [if_neg h64, if_neg h64, if_neg h64]
              refine (radd_no p4.d (k := k) (by omega)).mono ?_
              rintro e w5 ⟨v, rfl, G', cp', Q', Cp', rfl, d, t⟩
              exact ⟨G', cp', Q', Cp', rfl, d, t⟩
          · have px := p3.keep0 tx
            have hrb : (addK X k).r = R ∧ (addK X k).b = Bt := by
              unfold addK
              split
              · exact HE.out
              · exact HE.out
            exact ⟨px.mf, ⟨_, _, _, px.m0, px.m1, px.m2⟩, hrb.1, hrb.2, px.doc dx k3.wf⟩)
        have HRF := hid (ref_ k)
        clear HP1 HBX HE HXB hkk
        generalize addK X k = Z at *
        generalize adV X k = av at *
        generalize adE k = ae at *
        unfold kv dv PT at *
        go_wp2_with (go_at_call 13; refine HAD.out.mono ?_; rintro e w3 ⟨rfl, t3, k3⟩; obtain ⟨q1, q2, q3⟩ := HST.out _ t3 k3; have A0 := fun w4 t4 => (q1 w4 t4).1; have A1 := fun w4 t4 => (q1 w4 t4).2.1; have A2 := fun w4 t4 => (q1 w4 t4).2.2.1; have A3 := fun w4 t4 => (q1 w4 t4).2.2.2.1; have A4 := fun w4 t4 => (q1 w4 t4).2.2.2.2; have H2 := hid q2; have H3 := hid q3; clear q1 q2 q3 k3 t3 HAD HST)
        go_cut [16, 17, 18] from 77 to 84 (fun s16 s17 s18 wx => ∃ (bb G' cp' : Nat) (Q' Cp' : Nat → Nat), s16 = .pointer (some ⟨bb, 0, none⟩) ∧ s17 = .int .i64 (av : Nat) ∧ s18 = .int .i64 (ae : Nat) ∧ Hid (Touch [] w3 wx ∧ wx.heap[bb]? = some (.cells (bxd Z G' cp') 29 (0, 0)) ∧ Dq wx 0 G' cp' Q' Cp' Z))
        case first =>
          refine wp_region_H (S := fun w' => Touch [] w3 w') (by kernel_rfl) ?_
          obtain ⟨w3d, hw3⟩ : ∃ w3d, w3d = w3.drew := ⟨_, rfl⟩
          have s0 : Touch [] w3 w3d := by rw [hw3]; exact (Touch.refl _ _).drew
          rw [← hw3]
          clear hw3
          refine wpH_take (i := 0) (v := (.agg #[.int .i64 (X.b : Nat), Value.slice (some ⟨G, 0, none⟩) X.r cp, .int .u64 (X.t : Nat)])) (some 77) rfl rfl (by kernel_rfl) (by kernel_rfl) (by kernel_rfl) (fun _ _ _ h => h) (Or.inl ⟨by rfl, fun w' hS => (by have z0 := A0 _ hS; have z1 := A1 _ hS; have z2 := A2 _ hS; go_simp)⟩) s0 ?_
          try simp only [Go.Act.put, List.setIfInBounds_toArray, List.set_cons_zero, List.set_cons_succ]
          refine wpH_take (i := 1) (v := (.pointer (some ⟨xb, 1, none⟩))) (some 78) rfl rfl (by kernel_rfl) (by kernel_rfl) (by kernel_rfl) (fun _ _ _ h => h) (Or.inl ⟨by rfl, fun w' hS => (by go_simp)⟩) s0 ?_
          try simp only [Go.Act.put, List.setIfInBounds_toArray, List.set_cons_zero, List.set_cons_succ]
          refine wpH_take (i := 2) (v := (.agg #[.int .u16 k.1, .string k.2])) (some 79) rfl rfl (by kernel_rfl) (by kernel_rfl) (by kernel_rfl) (fun _ _ _ h => h) (Or.inl ⟨by rfl, fun w' hS => (by have z0 := A3 _ hS; have z1 := A4 _ hS; go_simp)⟩) s0 ?_
          try simp only [Go.Act.put, List.setIfInBounds_toArray, List.set_cons_zero, List.set_cons_succ]
          refine wpH_ready (rs := [3, 9]) (by kernel_rfl) (by simp) ?_
          refine AllH.cons (o := { dst := some 80, op := Op.call { callee := Callee.value (Operand.func 18), args := #[Operand.tmp 79], argTypes := #[43] }, type := 50, pos := _, after := #[{ on := 2, ground := Ground.data }], guard := none }) rfl (fun K' hK => ?_) ?_
          · rw [if_pos (by rfl)]
            go_simp
            refine (HRF.out _).mono ?_
            rintro e wa1 ⟨rfl, ta1⟩
            have sa1 := s0.trans' ta1
            refine hK.out _ _ sa1 ?_
            clear hK
            try simp only [Go.Act.put, List.setIfInBounds_toArray, List.set_cons_zero, List.set_cons_succ]
            refine wpH_ready (rs := [4, 9]) (by kernel_rfl) (by simp) ?_
            refine AllH.cons (o := { dst := some 81, op := Op.call { callee := Callee.value (Operand.func 14), args := #[Operand.tmp 77, Operand.tmp 80], argTypes := #[29, 50] }, type := 48, pos := _, after := #[{ on := 0, ground := Ground.data }, { on := 3, ground := Ground.data }, { on := 3, ground := Ground.chain }], guard := none }) rfl (fun K' hK => ?_) ?_
            · rw [if_pos (by rfl)]
              go_simp
              refine (H2.out _ sa1).mono ?_
              rintro e wb2 ⟨G', cp', Q', Cp', rfl, db2, tb2⟩
              have sb2 := sa1.trans' tb2
              refine hK.out _ _ sb2 ?_
              clear hK
              try simp only [Go.Act.put, List.setIfInBounds_toArray, List.set_cons_zero, List.set_cons_succ]
              refine wpH_take (i := 5) (v := (.tuple #[(.agg #[.int .i64 (Z.b : Nat), Value.slice (some ⟨G', 0, none⟩) Z.r cp', .int .u64 (Z.t : Nat)]), (.int .i64 (av : Nat)), (.int .i64 (ae : Nat))])) (some 76) rfl rfl (by kernel_rfl) (by kernel_rfl) (by kernel_rfl) (fun _ _ _ h => h) (Or.inl ⟨by rfl, fun w' hS => (by go_simp)⟩) sb2 ?_
              try simp only [Go.Act.put, List.setIfInBounds_toArray, List.set_cons_zero, List.set_cons_succ]
              refine wpH_take (i := 6) (v := (.agg #[.int .i64 (Z.b : Nat), Value.slice (some ⟨G', 0, none⟩) Z.r cp', .int .u64 (Z.t : Nat)])) (some 82) rfl rfl (by kernel_rfl) (by kernel_rfl) (by kernel_rfl) (fun _ _ _ h => h) (Or.inl ⟨by rfl, fun w' hS => (by go_simp)⟩) sb2 ?_
              try simp only [Go.Act.put, List.setIfInBounds_toArray, List.set_cons_zero, List.set_cons_succ]
              refine wpH_take (i := 7) (v := (.int .i64 (av : Nat))) (some 83) rfl rfl (by kernel_rfl) (by kernel_rfl) (by kernel_rfl) (fun _ _ _ h => h) (Or.inl ⟨by rfl, fun w' hS => (by go_simp)⟩) sb2 ?_
              try simp only [Go.Act.put, List.setIfInBounds_toArray, List.set_cons_zero, List.set_cons_succ]
              refine wpH_take (i := 8) (v := (.int .i64 (ae : Nat))) (some 84) rfl rfl (by kernel_rfl) (by kernel_rfl) (by kernel_rfl) (fun _ _ _ h => h) (Or.inl ⟨by rfl, fun w' hS => (by go_simp)⟩) sb2 ?_
              try simp only [Go.Act.put, List.setIfInBounds_toArray, List.set_cons_zero, List.set_cons_succ]
              refine wpH_call (i := 9) (o := { dst := some 16, op := Op.alloc 29, type := 0, pos := _, after := #[], guard := none }) (by kernel_rfl) rfl (fun K' hK => ?_)
              rw [if_pos (by rfl)]
              go_simp
              have sc3 := sb2.alloc (.cells #[.int .i64 0, .slice none 0 0, .int .u64 0] 29)
              have he3 := heap_alloc_new wb2 (.cells #[.int .i64 0, .slice none 0 0, .int .u64 0] 29)
              have hz3 := sb2.size
              obtain ⟨bb3, hbb3⟩ : ∃ bb, bb = (wb2).heap.size := ⟨_, rfl⟩
              obtain ⟨wc3, hwc3⟩ : ∃ wc, wc = (wb2).alloc (.cells #[.int .i64 0, .slice none 0 0, .int .u64 0] 29) := ⟨_, rfl⟩
              rw [← hbb3, ← hwc3] at he3
              rw [← hwc3] at sc3
              rw [← hbb3] at hz3
              have dd3 := Dq.keep0 db2 (show Touch [] wb2 wc3 by rw [hwc3]; exact (Touch.refl _ _).alloc _)
              skip
              try simp only [← hbb3, ← hwc3]
              clear hbb3 hwc3
              refine hK.out _ _ sc3 ?_
              clear hK
              try simp only [Go.Act.put, List.setIfInBounds_toArray, List.set_cons_zero, List.set_cons_succ]
              refine wpH_call (i := 10) (o := { dst := none, op := Op.store 29 (Operand.tmp 16) (Operand.tmp 82), type := 0, pos := _, after := #[{ on := 9, ground := Ground.data }, { on := 6, ground := Ground.data }, { on := 4, ground := Ground.chain }, { on := 0, ground := Ground.phase }, { on := 1, ground := Ground.phase }, { on := 2, ground := Ground.phase }, { on := 3, ground := Ground.phase }, { on := 4, ground := Ground.phase }, { on := 5, ground := Ground.phase }, { on := 6, ground := Ground.phase }, { on := 7, ground := Ground.textOnly Departure.lateStores }, { on := 8, ground := Ground.textOnly Departure.lateStores }, { on := 9, ground := Ground.phase }], guard := none }) (by kernel_rfl) rfl (fun K' hK => ?_)
              rw [if_pos (by rfl)]
              have v0 := cell_at (j := 0) (v := .int .i64 0) he3 rfl
              have v1 := cell_at (j := 1) (v := .slice none 0 0) he3 rfl
              have v2 := cell_at (j := 2) (v := .int .u64 0) he3 rfl
              have vf := froz_at he3
              go_simp
              clear v0 v1 v2 vf
              have se4 : Touch [] w3 _ := (((sc3.setCell (p := ⟨bb3, 0, none⟩) (Or.inr hz3) (.int .i64 (Z.b : Nat))).setCell (p := ⟨bb3, 1, none⟩) (Or.inr hz3) (.slice (some ⟨G', 0, none⟩) Z.r cp')).setCell (p := ⟨bb3, 2, none⟩) (Or.inr hz3) (.int .u64 (Z.t : Nat)))
              have hf4 := bset (i := 2) (bset (i := 1) (bset (i := 0) he3 (.int .i64 (Z.b : Nat))) (.slice (some ⟨G', 0, none⟩) Z.r cp')) (.int .u64 (Z.t : Nat))
              have tf4 : Touch [bb3] wc3 _ := (((Touch.refl _ wc3).setCell (p := ⟨bb3, 0, none⟩) (Or.inl (by simp)) (.int .i64 (Z.b : Nat))).setCell (p := ⟨bb3, 1, none⟩) (Or.inl (by simp)) (.slice (some ⟨G', 0, none⟩) Z.r cp')).setCell (p := ⟨bb3, 2, none⟩) (Or.inl (by simp)) (.int .u64 (Z.t : Nat))
              have df4 : Dq _ 0 G' cp' Q' Cp' Z := (Dq.keep dd3 tf4 (by have := (Dq.apart dd3 he3 (by decide) (by decide)).1; simp [this]) (fun j hj => by have := (Dq.apart dd3 he3 (by decide) (by decide)).2 j hj; simp [this]))
              refine hK.out _ _ se4 ?_
              clear hK
              try simp only [Go.Act.put, List.setIfInBounds_toArray, List.set_cons_zero, List.set_cons_succ]
              refine wpH_take (i := 11) (v := (.int .i64 (av : Nat))) (some 17) rfl rfl (by kernel_rfl) (by kernel_rfl) (by kernel_rfl) (fun _ _ _ h => h) (Or.inl ⟨by rfl, fun w' hS => (by go_simp)⟩) se4 ?_
              try simp only [Go.Act.put, List.setIfInBounds_toArray, List.set_cons_zero, List.set_cons_succ]
              refine wpH_take (i := 12) (v := (.int .i64 (ae : Nat))) (some 18) rfl rfl (by kernel_rfl) (by kernel_rfl) (by kernel_rfl) (fun _ _ _ h => h) (Or.inl ⟨by rfl, fun w' hS => (by go_simp)⟩) se4 ?_
              try simp only [Go.Act.put, List.setIfInBounds_toArray, List.set_cons_zero, List.set_cons_succ]
              refine wpAnyH_done (by kernel_rfl) ?_ _
              go_wp2
              go_meet
              case rel => exact ⟨bb3, G', cp', Q', Cp', rfl, rfl, rfl, hid ⟨se4, hf4, df4⟩⟩
            refine AllH.cons (o := { dst := some 16, op := Op.alloc 29, type := 0, pos := _, after := #[], guard := none }) rfl (fun K' hK => ?_) ?_
            · rw [if_pos (by rfl)]
              go_simp
              have sc5 := sa1.alloc (.cells #[.int .i64 0, .slice none 0 0, .int .u64 0] 29)
              have he5 := heap_alloc_new wa1 (.cells #[.int .i64 0, .slice none 0 0, .int .u64 0] 29)
              have hz5 := sa1.size
              obtain ⟨bb5, hbb5⟩ : ∃ bb, bb = (wa1).heap.size := ⟨_, rfl⟩
              obtain ⟨wc5, hwc5⟩ : ∃ wc, wc = (wa1).alloc (.cells #[.int .i64 0, .slice none 0 0, .int .u64 0] 29) := ⟨_, rfl⟩
              rw [← hbb5, ← hwc5] at he5
              rw [← hwc5] at sc5
              rw [← hbb5] at hz5
              skip
              try simp only [← hbb5, ← hwc5]
              clear hbb5 hwc5
              refine hK.out _ _ sc5 ?_
              clear hK
              try simp only [Go.Act.put, List.setIfInBounds_toArray, List.set_cons_zero, List.set_cons_succ]
              refine wpH_call (i := 4) (o := { dst := some 81, op := Op.call { callee := Callee.value (Operand.func 14), args := #[Operand.tmp 77, Operand.tmp 80], argTypes := #[29, 50] }, type := 48, pos := _, after := #[{ on := 0, ground := Ground.data }, { on := 3, ground := Ground.data }, { on := 3, ground := Ground.chain }], guard := none }) (by kernel_rfl) rfl (fun K' hK => ?_)
              rw [if_pos (by rfl)]
              go_simp
              refine (H2.out _ sc5).mono ?_
              rintro e wb6 ⟨G', cp', Q', Cp', rfl, db6, tb6⟩
              have sb6 := sc5.trans' tb6
              have hr6 := tb6.keep he5 (by simp)
              refine hK.out _ _ sb6 ?_
              clear hK
              try simp only [Go.Act.put, List.setIfInBounds_toArray, List.set_cons_zero, List.set_cons_succ]
              refine wpH_take (i := 5) (v := (.tuple #[(.agg #[.int .i64 (Z.b : Nat), Value.slice (some ⟨G', 0, none⟩) Z.r cp', .int .u64 (Z.t : Nat)]), (.int .i64 (av : Nat)), (.int .i64 (ae : Nat))])) (some 76) rfl rfl (by kernel_rfl) (by kernel_rfl) (by kernel_rfl) (fun _ _ _ h => h) (Or.inl ⟨by rfl, fun w' hS => (by go_simp)⟩) sb6 ?_
              try simp only [Go.Act.put, List.setIfInBounds_toArray, List.set_cons_zero, List.set_cons_succ]
              refine wpH_take (i := 6) (v := (.agg #[.int .i64 (Z.b : Nat), Value.slice (some ⟨G', 0, none⟩) Z.r cp', .int .u64 (Z.t : Nat)])) (some 82) rfl rfl (by kernel_rfl) (by kernel_rfl) (by kernel_rfl) (fun _ _ _ h => h) (Or.inl ⟨by rfl, fun w' hS => (by go_simp)⟩) sb6 ?_
              try simp only [Go.Act.put, List.setIfInBounds_toArray, List.set_cons_zero, List.set_cons_succ]
              refine wpH_take (i := 7) (v := (.int .i64 (av : Nat))) (some 83) rfl rfl (by kernel_rfl) (by kernel_rfl) (by kernel_rfl) (fun _ _ _ h => h) (Or.inl ⟨by rfl, fun w' hS => (by go_simp)⟩) sb6 ?_
              try simp only [Go.Act.put, List.setIfInBounds_toArray, List.set_cons_zero, List.set_cons_succ]
              refine wpH_take (i := 8) (v := (.int .i64 (ae : Nat))) (some 84) rfl rfl (by kernel_rfl) (by kernel_rfl) (by kernel_rfl) (fun _ _ _ h => h) (Or.inl ⟨by rfl, fun w' hS => (by go_simp)⟩) sb6 ?_
              try simp only [Go.Act.put, List.setIfInBounds_toArray, List.set_cons_zero, List.set_cons_succ]
              refine wpH_call (i := 10) (o := { dst := none, op := Op.store 29 (Operand.tmp 16) (Operand.tmp 82), type := 0, pos := _, after := #[{ on := 9, ground := Ground.data }, { on := 6, ground := Ground.data }, { on := 4, ground := Ground.chain }, { on := 0, ground := Ground.phase }, { on := 1, ground := Ground.phase }, { on := 2, ground := Ground.phase }, { on := 3, ground := Ground.phase }, { on := 4, ground := Ground.phase }, { on := 5, ground := Ground.phase }, { on := 6, ground := Ground.phase }, { on := 7, ground := Ground.textOnly Departure.lateStores }, { on := 8, ground := Ground.textOnly Departure.lateStores }, { on := 9, ground := Ground.phase }], guard := none }) (by kernel_rfl) rfl (fun K' hK => ?_)
              rw [if_pos (by rfl)]
              have v0 := cell_at (j := 0) (v := .int .i64 0) hr6 rfl
              have v1 := cell_at (j := 1) (v := .slice none 0 0) hr6 rfl
              have v2 := cell_at (j := 2) (v := .int .u64 0) hr6 rfl
              have vf := froz_at hr6
              go_simp
              clear v0 v1 v2 vf
              have se7 : Touch [] w3 _ := (((sb6.setCell (p := ⟨bb5, 0, none⟩) (Or.inr hz5) (.int .i64 (Z.b : Nat))).setCell (p := ⟨bb5, 1, none⟩) (Or.inr hz5) (.slice (some ⟨G', 0, none⟩) Z.r cp')).setCell (p := ⟨bb5, 2, none⟩) (Or.inr hz5) (.int .u64 (Z.t : Nat)))
              have hf7 := bset (i := 2) (bset (i := 1) (bset (i := 0) hr6 (.int .i64 (Z.b : Nat))) (.slice (some ⟨G', 0, none⟩) Z.r cp')) (.int .u64 (Z.t : Nat))
              have tf7 : Touch [bb5] wb6 _ := (((Touch.refl _ wb6).setCell (p := ⟨bb5, 0, none⟩) (Or.inl (by simp)) (.int .i64 (Z.b : Nat))).setCell (p := ⟨bb5, 1, none⟩) (Or.inl (by simp)) (.slice (some ⟨G', 0, none⟩) Z.r cp')).setCell (p := ⟨bb5, 2, none⟩) (Or.inl (by simp)) (.int .u64 (Z.t : Nat))
              have df7 : Dq _ 0 G' cp' Q' Cp' Z := (Dq.keep db6 tf7 (by have := (Dq.apart db6 hr6 (by decide) (by decide)).1; simp [this]) (fun j hj => by have := (Dq.apart db6 hr6 (by decide) (by decide)).2 j hj; simp [this]))
              refine hK.out _ _ se7 ?_
              clear hK
              try simp only [Go.Act.put, List.setIfInBounds_toArray, List.set_cons_zero, List.set_cons_succ]
              refine wpH_take (i := 11) (v := (.int .i64 (av : Nat))) (some 17) rfl rfl (by kernel_rfl) (by kernel_rfl) (by kernel_rfl) (fun _ _ _ h => h) (Or.inl ⟨by rfl, fun w' hS => (by go_simp)⟩) se7 ?_
              try simp only [Go.Act.put, List.setIfInBounds_toArray, List.set_cons_zero, List.set_cons_succ]
              refine wpH_take (i := 12) (v := (.int .i64 (ae : Nat))) (some 18) rfl rfl (by kernel_rfl) (by kernel_rfl) (by kernel_rfl) (fun _ _ _ h => h) (Or.inl ⟨by rfl, fun w' hS => (by go_simp)⟩) se7 ?_
              try simp only [Go.Act.put, List.setIfInBounds_toArray, List.set_cons_zero, List.set_cons_succ]
              refine wpAnyH_done (by kernel_rfl) ?_ _
              go_wp2
              go_meet
              case rel => exact ⟨bb5, G', cp', Q', Cp', rfl, rfl, rfl, hid ⟨se7, hf7, df7⟩⟩
            exact AllH.nil
          refine AllH.cons (o := { dst := some 16, op := Op.alloc 29, type := 0, pos := _, after := #[], guard := none }) rfl (fun K' hK => ?_) ?_
          · rw [if_pos (by rfl)]
            go_simp
            have sc8 := s0.alloc (.cells #[.int .i64 0, .slice none 0 0, .int .u64 0] 29)
            have he8 := heap_alloc_new w3d (.cells #[.int .i64 0, .slice none 0 0, .int .u64 0] 29)
            have hz8 := s0.size
            obtain ⟨bb8, hbb8⟩ : ∃ bb, bb = (w3d).heap.size := ⟨_, rfl⟩
            obtain ⟨wc8, hwc8⟩ : ∃ wc, wc = (w3d).alloc (.cells #[.int .i64 0, .slice none 0 0, .int .u64 0] 29) := ⟨_, rfl⟩
            rw [← hbb8, ← hwc8] at he8
            rw [← hwc8] at sc8
            rw [← hbb8] at hz8
            skip
            try simp only [← hbb8, ← hwc8]
            clear hbb8 hwc8
            refine hK.out _ _ sc8 ?_
            clear hK
            try simp only [Go.Act.put, List.setIfInBounds_toArray, List.set_cons_zero, List.set_cons_succ]
            refine wpH_call (i := 3) (o := { dst := some 80, op := Op.call { callee := Callee.value (Operand.func 18), args := #[Operand.tmp 79], argTypes := #[43] }, type := 50, pos := _, after := #[{ on := 2, ground := Ground.data }], guard := none }) (by kernel_rfl) rfl (fun K' hK => ?_)
            rw [if_pos (by rfl)]
            go_simp
            refine (HRF.out _).mono ?_
            rintro e wa9 ⟨rfl, ta9⟩
            have sa9 := sc8.trans' ta9
            have hq9 := ta9.keep he8 (by simp)
            refine hK.out _ _ sa9 ?_
            clear hK
            try simp only [Go.Act.put, List.setIfInBounds_toArray, List.set_cons_zero, List.set_cons_succ]
            refine wpH_call (i := 4) (o := { dst := some 81, op := Op.call { callee := Callee.value (Operand.func 14), args := #[Operand.tmp 77, Operand.tmp 80], argTypes := #[29, 50] }, type := 48, pos := _, after := #[{ on := 0, ground := Ground.data }, { on := 3, ground := Ground.data }, { on := 3, ground := Ground.chain }], guard := none }) (by kernel_rfl) rfl (fun K' hK => ?_)
            rw [if_pos (by rfl)]
            go_simp
            refine (H2.out _ sa9).mono ?_
            rintro e wb10 ⟨G', cp', Q', Cp', rfl, db10, tb10⟩
            have sb10 := sa9.trans' tb10
            have hr10 := tb10.keep hq9 (by simp)
            refine hK.out _ _ sb10 ?_
            clear hK
            try simp only [Go.Act.put, List.setIfInBounds_toArray, List.set_cons_zero, List.set_cons_succ]
            refine wpH_take (i := 5) (v := (.tuple #[(.agg #[.int .i64 (Z.b : Nat), Value.slice (some ⟨G', 0, none⟩) Z.r cp', .int .u64 (Z.t : Nat)]), (.int .i64 (av : Nat)), (.int .i64 (ae : Nat))])) (some 76) rfl rfl (by kernel_rfl) (by kernel_rfl) (by kernel_rfl) (fun _ _ _ h => h) (Or.inl ⟨by rfl, fun w' hS => (by go_simp)⟩) sb10 ?_
            try simp only [Go.Act.put, List.setIfInBounds_toArray, List.set_cons_zero, List.set_cons_succ]
            refine wpH_take (i := 6) (v := (.agg #[.int .i64 (Z.b : Nat), Value.slice (some ⟨G', 0, none⟩) Z.r cp', .int .u64 (Z.t : Nat)])) (some 82) rfl rfl (by kernel_rfl) (by kernel_rfl) (by kernel_rfl) (fun _ _ _ h => h) (Or.inl ⟨by rfl, fun w' hS => (by go_simp)⟩) sb10 ?_
            try simp only [Go.Act.put, List.setIfInBounds_toArray, List.set_cons_zero, List.set_cons_succ]
            refine wpH_take (i := 7) (v := (.int .i64 (av : Nat))) (some 83) rfl rfl (by kernel_rfl) (by kernel_rfl) (by kernel_rfl) (fun _ _ _ h => h) (Or.inl ⟨by rfl, fun w' hS => (by go_simp)⟩) sb10 ?_
            try simp only [Go.Act.put, List.setIfInBounds_toArray, List.set_cons_zero, List.set_cons_succ]
            refine wpH_take (i := 8) (v := (.int .i64 (ae : Nat))) (some 84) rfl rfl (by kernel_rfl) (by kernel_rfl) (by kernel_rfl) (fun _ _ _ h => h) (Or.inl ⟨by rfl, fun w' hS => (by go_simp)⟩) sb10 ?_
            try simp only [Go.Act.put, List.setIfInBounds_toArray, List.set_cons_zero, List.set_cons_succ]
            refine wpH_call (i := 10) (o := { dst := none, op := Op.store 29 (Operand.tmp 16) (Operand.tmp 82), type := 0, pos := _, after := #[{ on := 9, ground := Ground.data }, { on := 6, ground := Ground.data }, { on := 4, ground := Ground.chain }, { on := 0, ground := Ground.phase }, { on := 1, ground := Ground.phase }, { on := 2, ground := Ground.phase }, { on := 3, ground := Ground.phase }, { on := 4, ground := Ground.phase }, { on := 5, ground := Ground.phase }, { on := 6, ground := Ground.phase }, { on := 7, ground := Ground.textOnly Departure.lateStores }, { on := 8, ground := Ground.textOnly Departure.lateStores }, { on := 9, ground := Ground.phase }], guard := none }) (by kernel_rfl) rfl (fun K' hK => ?_)
            rw [if_pos (by rfl)]
            have v0 := cell_at (j := 0) (v := .int .i64 0) hr10 rfl
            have v1 := cell_at (j := 1) (v := .slice none 0 0) hr10 rfl
            have v2 := cell_at (j := 2) (v := .int .u64 0) hr10 rfl
            have vf := froz_at hr10
            go_simp
            clear v0 v1 v2 vf
            have se11 : Touch [] w3 _ := (((sb10.setCell (p := ⟨bb8, 0, none⟩) (Or.inr hz8) (.int .i64 (Z.b : Nat))).setCell (p := ⟨bb8, 1, none⟩) (Or.inr hz8) (.slice (some ⟨G', 0, none⟩) Z.r cp')).setCell (p := ⟨bb8, 2, none⟩) (Or.inr hz8) (.int .u64 (Z.t : Nat)))
            have hf11 := bset (i := 2) (bset (i := 1) (bset (i := 0) hr10 (.int .i64 (Z.b : Nat))) (.slice (some ⟨G', 0, none⟩) Z.r cp')) (.int .u64 (Z.t : Nat))
            have tf11 : Touch [bb8] wb10 _ := (((Touch.refl _ wb10).setCell (p := ⟨bb8, 0, none⟩) (Or.inl (by simp)) (.int .i64 (Z.b : Nat))).setCell (p := ⟨bb8, 1, none⟩) (Or.inl (by simp)) (.slice (some ⟨G', 0, none⟩) Z.r cp')).setCell (p := ⟨bb8, 2, none⟩) (Or.inl (by simp)) (.int .u64 (Z.t : Nat))
            have df11 : Dq _ 0 G' cp' Q' Cp' Z := (Dq.keep db10 tf11 (by have := (Dq.apart db10 hr10 (by decide) (by decide)).1; simp [this]) (fun j hj => by have := (Dq.apart db10 hr10 (by decide) (by decide)).2 j hj; simp [this]))
            refine hK.out _ _ se11 ?_
            clear hK
            try simp only [Go.Act.put, List.setIfInBounds_toArray, List.set_cons_zero, List.set_cons_succ]
            refine wpH_take (i := 11) (v := (.int .i64 (av : Nat))) (some 17) rfl rfl (by kernel_rfl) (by kernel_rfl) (by kernel_rfl) (fun _ _ _ h => h) (Or.inl ⟨by rfl, fun w' hS => (by go_simp)⟩) se11 ?_
            try simp only [Go.Act.put, List.setIfInBounds_toArray, List.set_cons_zero, List.set_cons_succ]
            refine wpH_take (i := 12) (v := (.int .i64 (ae : Nat))) (some 18) rfl rfl (by kernel_rfl) (by kernel_rfl) (by kernel_rfl) (fun _ _ _ h => h) (Or.inl ⟨by rfl, fun w' hS => (by go_simp)⟩) se11 ?_
            try simp only [Go.Act.put, List.setIfInBounds_toArray, List.set_cons_zero, List.set_cons_succ]
            refine wpAnyH_done (by kernel_rfl) ?_ _
            go_wp2
            go_meet
            case rel => exact ⟨bb8, G', cp', Q', Cp', rfl, rfl, rfl, hid ⟨se11, hf11, df11⟩⟩
          exact AllH.nil
        case rest =>
          obtain ⟨bb, G', cp', Q', Cp', rfl, rfl, rfl, HX⟩ := hcut
          obtain ⟨j1, ⟨j2a, j2b, j2c, j2, j3, j4⟩, j5, j6, j7⟩ := H3.out _ _ _ _ _ HX.out.1 HX.out.2.2
          have hbb := HX.out.2.1
          unfold bxd at hbb
          have u0 := cell_at (j := 0) (v := .int .i64 (Z.b : Nat)) hbb rfl
          have u1 := cell_at (j := 1) (v := .slice (some ⟨G', 0, none⟩) Z.r cp') hbb rfl
          have u2 := cell_at (j := 2) (v := .int .u64 (Z.t : Nat)) hbb rfl
          have J := hid (And.intro j5 (And.intro j6 j7))
          clear H2 H3 HX hbb A0 A1 A2 A3 A4 j5 j6 j7 HRF
          go_wp2
          refine ⟨⟨i + 1, s, g, cap, Z, G', cp', Q', Cp', by omega, by omega, rfl, rfl, hid J.out⟩, by simp [intOf]; omega⟩
      by_cases k1 : kd = 1
      · subst k1
        have HHA := hid (halve_ HP1.out.k)
        have HST : Hid (∀ w3, Touch [s, g] V w3 → Kq w3 s g cap (halveS X) → w3.cell? ⟨mb, 0, none⟩ = some (.int .i64 (X.b : Nat)) ∧ w3.cell? ⟨mb, 1, none⟩ = some (.slice (some ⟨G, 0, none⟩) X.r cp) ∧ w3.cell? ⟨mb, 2, none⟩ = some (.int .u64 (X.t : Nat)) ∧ (Calls Try.prog 29 #[dv (.slice (some ⟨G, 0, none⟩) X.r cp) X] w3 fun e w5 => ∃ G' cp' Q' Cp', e = .returned (.agg #[.int .i64 ((halveS X).b : Nat), .slice (some ⟨G', 0, none⟩) (halveS X).r cp', .int .u64 ((halveS X).t : Nat)]) ∧ (∀ j, w5.frozen? ⟨mb, j, none⟩ = false) ∧ (∃ a b c, w5.cell? ⟨mb, 0, none⟩ = some a ∧ w5.cell? ⟨mb, 1, none⟩ = some b ∧ w5.cell? ⟨mb, 2, none⟩ = some c) ∧ (halveS X).r = R ∧ (halveS X).b = Bt ∧ Pv w (((w5.setCell ⟨mb, 0, none⟩ (.int .i64 ((halveS X).b : Nat))).setCell ⟨mb, 1, none⟩ (.slice (some ⟨G', 0, none⟩) (halveS X).r cp')).setCell ⟨mb, 2, none⟩ (.int .u64 ((halveS X).t : Nat))) mb s g cap (halveS X) (halveS X) G' cp' Q' Cp')) := hid (fun w3 t3 k3 => by
          have p3 := HP1.out.prog t3 k3
          refine ⟨p3.m0, p3.m1, p3.m2, ?_⟩
          refine (rhalve_ p3.d p3.wx).mono ?_
          rintro e w5 ⟨v, rfl, G', cp', Q', Cp', rfl, d, t⟩
          have p5 := p3.keep0 t
          exact ⟨G', cp', Q', Cp', rfl, p5.mf, ⟨_, _, _, p5.m0, p5.m1, p5.m2⟩, HE.out.1, HE.out.2, p5.doc (d.base (Nat.zero_le _)) k3.wf⟩)
        clear HP1 HBX HE HXB hkk k0
        generalize halveS X = Z at *
        unfold dv PT at *
        go_wp2_with (first
          | (go_at_call 24; refine HHA.out.mono ?_; rintro e w3 ⟨rfl, t3, k3⟩; obtain ⟨q0, q1, q2, q3⟩ := HST.out _ t3 k3; have H3 := hid q3; clear q3 t3 k3 HST HHA)
          | (go_at_call 29; refine H3.out.mono ?_; rintro e w5 ⟨G', cp', Q', Cp', rfl, j1, ⟨j2a, j2b, j2c, j2, j3, j4⟩, j5, j6, j7⟩; have J := hid (And.intro j5 (And.intro j6 j7)); clear j5 j6 j7 H3))
        refine ⟨⟨i + 1, s, g, cap, Z, G', cp', Q', Cp', by omega, by omega, rfl, rfl, hid J.out⟩, by simp [intOf]; omega⟩
      by_cases k2 : kd = 2
      · subst k2
        have HCL : Hid (Calls Try.prog 27 #[PT s] V fun e w3 => ∃ s', e = .returned (.pointer (some ⟨s', 0, none⟩)) ∧ (w3.cell? ⟨xb, 1, none⟩ = some (.int .u16 k.1) ∧ w3.cell? ⟨xb, 2, none⟩ = some (.string k.2)) ∧ Calls Try.prog 13 #[PT s, kv k] w3 fun e w4 => ∃ a b, e = .returned (.tuple #[.int .i64 a, .int .i64 b]) ∧ ∃ g' cap', Pv w w4 mb s' g' cap' X X G cp Q Cp) := hid (by
          refine (clone_ HP1.out.k).mono ?_
          rintro e w3 ⟨v, rfl, s', g', cap', rfl, l1, l2, k3, t3⟩
          have hb3 := t3.keep HBX.out (by simp)
          refine ⟨s', rfl, ⟨cell_at hb3 rfl, cell_at hb3 rfl⟩, ?_⟩
          have p3 := HP1.out.keep0 t3
          refine (add_any p3.k hkk).mono ?_
          rintro e w4 ⟨rfl, t4, k4⟩
          have hs := HP1.out.k.lt
          have hg := HP1.out.k.ltg
          have hV := HP1.out.t.size
          exact ⟨_, _, rfl, g', cap', (p3.prog t4 k4).swap (k3.keep t4 (by simp; omega) (by simp; omega)) (by omega) (by omega)⟩)
        clear HP1 HBX HXB hkk k0 k1
        unfold kv PT at *
        go_wp2_with (first
          | (go_at_call 27; refine HCL.out.mono ?_; rintro e w3 ⟨s', rfl, ⟨q1, q2⟩, q3⟩; have H3 := hid q3; clear q3 HCL)
          | (go_at_call 13; refine H3.out.mono ?_; rintro e w4 ⟨va, vb, rfl, j1⟩; have J := hid j1; clear j1 H3))
        obtain ⟨g', cap', p4⟩ := J.out
        refine ⟨⟨i + 1, s', g', cap', X, G, cp, Q, Cp, by omega, by omega, rfl, rfl, hid ⟨HE.out.1, HE.out.2, p4⟩⟩, by simp [intOf]; omega⟩
      by_cases k3 : kd = 3
      · subst k3
        have HMG : Hid (Calls Try.prog 11 #[PT s, PT s] V fun e w3 => ∃ s', e = .returned (.tuple #[.pointer (some ⟨s', 0, none⟩), .int .i64 0]) ∧ (w3.cell? ⟨mb, 0, none⟩ = some (.int .i64 (X.b : Nat)) ∧ w3.cell? ⟨mb, 1, none⟩ = some (.slice (some ⟨G, 0, none⟩) X.r cp) ∧ w3.cell? ⟨mb, 2, none⟩ = some (.int .u64 (X.t : Nat))) ∧ Calls Try.prog 12 #[dv (.slice (some ⟨G, 0, none⟩) X.r cp) X, dv (.slice (some ⟨G, 0, none⟩) X.r cp) X] w3 fun e w5 => ∃ G' cp' Q' Cp' g' cap', e = .returned (.tuple #[.agg #[.int .i64 ((mergeS X X).b : Nat), .slice (some ⟨G', 0, none⟩) (mergeS X X).r cp', .int .u64 ((mergeS X X).t : Nat)], .int .i64 0]) ∧ (mergeS X X).r = R ∧ (mergeS X X).b = Bt ∧ ∀ w6, Touch [] w5 w6 → (∀ j, w6.frozen? ⟨mb, j, none⟩ = false) ∧ (∃ a b c, w6.cell? ⟨mb, 0, none⟩ = some a ∧ w6.cell? ⟨mb, 1, none⟩ = some b ∧ w6.cell? ⟨mb, 2, none⟩ = some c) ∧ Pv w (((w6.setCell ⟨mb, 0, none⟩ (.int .i64 ((mergeS X X).b : Nat))).setCell ⟨mb, 1, none⟩ (.slice (some ⟨G', 0, none⟩) (mergeS X X).r cp')).setCell ⟨mb, 2, none⟩ (.int .u64 ((mergeS X X).t : Nat))) mb s' g' cap' (mergeS X X) (mergeS X X) G' cp' Q' Cp') := hid (by
          refine (merge_ok HP1.out.k HP1.out.k rfl rfl).mono ?_
          rintro e w3 ⟨v, rfl, s', g', cap', rfl, l1, l2, k3, t3⟩
          have p3 := HP1.out.keep0 t3
          have hV := HP1.out.t.size
          have p3' := p3.swap k3 (by omega) (by omega)
          refine ⟨s', rfl, ⟨p3.m0, p3.m1, p3.m2⟩, ?_⟩
          refine (rmerge_ok p3.d p3.d p3.wx p3.wx rfl rfl).mono ?_
          rintro e w5 ⟨v, rfl, G', cp', Q', Cp', rfl, d, t⟩
          refine ⟨G', cp', Q', Cp', g', cap', rfl, HE.out.1, HE.out.2, fun w6 t6 => ?_⟩
          have p6 := (p3'.keep0 t).keep0 t6
          exact ⟨p6.mf, ⟨_, _, _, p6.m0, p6.m1, p6.m2⟩, p6.doc ((d.base (Nat.zero_le _)).keep0 t6) k3.wf⟩)
        clear HP1 HBX HXB hkk k0 k1 k2 HE
        generalize mergeS X X = Z at *
        unfold dv PT at *
        go_wp2_with (first
          | (go_at_call 11; refine HMG.out.mono ?_; rintro e w3 ⟨s', rfl, ⟨q0, q1, q2⟩, q3⟩; have H3 := hid q3; clear q3 HMG)
          | (go_at_call 12; refine H3.out.mono ?_; rintro e w5 ⟨G', cp', Q', Cp', g', cap', rfl, j5, j6, j7⟩; have J5 := hid (And.intro j5 j6); have J7 := hid j7; clear j5 j6 j7 H3))
        obtain ⟨bb, hbb⟩ : ∃ bb, bb = w5.heap.size := ⟨_, rfl⟩
        obtain ⟨W6, hW6⟩ : ∃ W6, W6 = (w5.alloc (.cells #[.int .i64 (Z.b : Nat), .slice (some ⟨G', 0, none⟩) Z.r cp', .int .u64 (Z.t : Nat)] 29)).drew := ⟨_, rfl⟩
        have hq6 : W6.heap[bb]? = some (.cells #[.int .i64 (Z.b : Nat), .slice (some ⟨G', 0, none⟩) Z.r cp', .int .u64 (Z.t : Nat)] 29 (0, 0)) := by rw [hW6, hbb]; exact heap_alloc_new w5 _
        obtain ⟨j1, ⟨j2a, j2b, j2c, j2, j3, j4⟩, j7⟩ := J7.out W6 (by rw [hW6]; exact ((Touch.refl _ _).alloc _).drew)
        have J8 := hid j7
        clear J7 j7
        rw [← hbb]
        refine wp_region_L (S := fun w' => w' = W6) (st := 3) (by kernel_rfl) ?_
        rw [← hW6]
        clear hW6 hbb
        have s0 : W6 = W6 := rfl
        have E0 : ∀ w', w' = W6 → w'.cell? ⟨bb, 0, none⟩ = some (.int .i64 (Z.b : Nat)) := fun w' e => by rw [e]; exact cell_at hq6 rfl
        have E1 : ∀ w', w' = W6 → w'.cell? ⟨bb, 1, none⟩ = some (.slice (some ⟨G', 0, none⟩) Z.r cp') := fun w' e => by rw [e]; exact cell_at hq6 rfl
        have E2 : ∀ w', w' = W6 → w'.cell? ⟨bb, 2, none⟩ = some (.int .u64 (Z.t : Nat)) := fun w' e => by rw [e]; exact cell_at hq6 rfl
        clear hq6
        refine wpL_take (i := 0) (v := (.pointer (some ⟨s', 0, none⟩))) (some 127) rfl rfl (by kernel_rfl) (by kernel_rfl) (by kernel_rfl) (by kernel_rfl) (by kernel_rfl) (by decide) (fun _ _ _ h => h) (Or.inl ⟨by rfl, fun w' hS => (by go_simp)⟩) s0 ?_
        try simp only [Go.Act.put, List.setIfInBounds_toArray, List.set_cons_zero, List.set_cons_succ]
        refine wpL_take (i := 1) (v := (.agg #[.int .i64 (Z.b : Nat), Value.slice (some ⟨G', 0, none⟩) Z.r cp', .int .u64 (Z.t : Nat)])) (some 128) rfl rfl (by kernel_rfl) (by kernel_rfl) (by kernel_rfl) (by kernel_rfl) (by kernel_rfl) (by decide) (fun _ _ _ h => h) (Or.inl ⟨by rfl, fun w' hS => (by have z0 := E0 _ hS; have z1 := E1 _ hS; have z2 := E2 _ hS; go_simp)⟩) s0 ?_
        try simp only [Go.Act.put, List.setIfInBounds_toArray, List.set_cons_zero, List.set_cons_succ]
        refine wpL_take (i := 2) (v := (.pointer (some ⟨s', 0, none⟩))) (some 9) rfl rfl (by kernel_rfl) (by kernel_rfl) (by kernel_rfl) (by kernel_rfl) (by kernel_rfl) (by decide) (fun _ _ _ h => h) (Or.inl ⟨by rfl, fun w' hS => (by go_simp)⟩) s0 ?_
        try simp only [Go.Act.put, List.setIfInBounds_toArray, List.set_cons_zero, List.set_cons_succ]
        refine wpL_ready (rs := [3]) (by kernel_rfl) (by simp) (AllL.cons (o := { dst := none, op := Op.store 29 (Operand.tmp 11) (Operand.tmp 128), type := 0, pos := _, after := #[{ on := 1, ground := Ground.data }, { on := 2, ground := Ground.chain }, { on := 0, ground := Ground.phase }, { on := 1, ground := Ground.phase }, { on := 2, ground := Ground.phase }], guard := none }) rfl (fun K' hK => ?_) AllL.nil)
        rw [if_pos (by rfl)]
        go_simp
        refine hK.out _ _ (fun h => absurd h (by decide)) ?_
        clear hK
        try simp only [Go.Act.put, List.setIfInBounds_toArray, List.set_cons_zero, List.set_cons_succ]
        refine wpL_done (by kernel_rfl) ?_ _
        clear E0 E1 E2 s0
        go_wp2
        refine ⟨⟨i + 1, s', g', cap', Z, G', cp', Q', Cp', by omega, by omega, rfl, rfl, hid ⟨J5.out.1, J5.out.2, J8.out⟩⟩, by simp [intOf]; omega⟩
      · have b0 : (kd == 0) = false := by simpa using k0
        have b1 : (kd == 1) = false := by simpa using k1
        have b2 : (kd == 2) = false := by simpa using k2
        have b3 : (kd == 3) = false := by simpa using k3
        clear k0 k1 k2 k3 HBX HXB hkk
        go_wp2
        refine ⟨⟨i + 1, s, g, cap, X, G, cp, Q, Cp, by omega, by omega, rfl, rfl, hid ⟨HE.out.1, HE.out.2, HP1.out⟩⟩, by simp [intOf]; omega⟩
    · have HQ := hid HP.out.2.2
      have HE := hid (And.intro HP.out.1 HP.out.2.1)
      clear HA HNN HP
      go_upto_region 8 with fail
      go_cut [58] from 51 to 58 (fun s58 wx => s58 = .bool false ∧ wx = wr)
      case first =>
        by_cases h1 : i < n
        · have z1 : (i : Int) < (n : Int) := by omega
          have z2 : ¬ (i : Int) < 60 := by omega
          go_wp2
          go_meet
          case rel => exact ⟨rfl, rfl⟩
        · have z1 : ¬ (i : Int) < (n : Int) := by omega
          go_wp2
          go_meet
          case rel => exact ⟨rfl, rfl⟩
      case rest =>
        obtain ⟨rfl, rfl⟩ := hcut
        go_wp2
        obtain ⟨W7, hW7⟩ : ∃ W7, W7 = wc.drew := ⟨_, rfl⟩
        have p7 := HQ.out.keep0 (w2 := W7) (by rw [hW7]; exact (Touch.refl _ _).drew)
        have HP7 := hid p7
        have E0 : ∀ w', w' = W7 → w'.cell? ⟨mb, 0, none⟩ = some (.int .i64 (X.b : Nat)) := fun w' e => by rw [e]; exact p7.m0
        have E1 : ∀ w', w' = W7 → w'.cell? ⟨mb, 1, none⟩ = some (.slice (some ⟨G, 0, none⟩) X.r cp) := fun w' e => by rw [e]; exact p7.m1
        have E2 : ∀ w', w' = W7 → w'.cell? ⟨mb, 2, none⟩ = some (.int .u64 (X.t : Nat)) := fun w' e => by rw [e]; exact p7.m2
        have v0 := cell_at (j := 0) (v := .int .i64 0) p7.z rfl
        have v1 := cell_at (j := 1) (v := .slice none 0 0) p7.z rfl
        have v2 := cell_at (j := 2) (v := .int .u64 0) p7.z rfl
        have vf := froz_at p7.z
        clear p7 HQ
        refine wp_region_L (S := fun w' => w' = W7) (st := 3) (by kernel_rfl) ?_
        rw [← hW7]
        clear hW7
        have s0 : W7 = W7 := rfl
        refine wpL_take (i := 0) (v := (.pointer (some ⟨s, 0, none⟩))) (some 132) rfl rfl (by kernel_rfl) (by kernel_rfl) (by kernel_rfl) (by kernel_rfl) (by kernel_rfl) (by decide) (fun _ _ _ h => h) (Or.inl ⟨by rfl, fun w' hS => (by go_simp)⟩) s0 ?_
        try simp only [Go.Act.put, List.setIfInBounds_toArray, List.set_cons_zero, List.set_cons_succ]
        refine wpL_take (i := 1) (v := (.agg #[.int .i64 (X.b : Nat), Value.slice (some ⟨G, 0, none⟩) X.r cp, .int .u64 (X.t : Nat)])) (some 133) rfl rfl (by kernel_rfl) (by kernel_rfl) (by kernel_rfl) (by kernel_rfl) (by kernel_rfl) (by decide) (fun _ _ _ h => h) (Or.inl ⟨by rfl, fun w' hS => (by have z0 := E0 _ hS; have z1 := E1 _ hS; have z2 := E2 _ hS; go_simp)⟩) s0 ?_
        try simp only [Go.Act.put, List.setIfInBounds_toArray, List.set_cons_zero, List.set_cons_succ]
        refine wpL_take (i := 2) (v := (.pointer (some ⟨s, 0, none⟩))) (some 6) rfl rfl (by kernel_rfl) (by kernel_rfl) (by kernel_rfl) (by kernel_rfl) (by kernel_rfl) (by decide) (fun _ _ _ h => h) (Or.inl ⟨by rfl, fun w' hS => (by go_simp)⟩) s0 ?_
        try simp only [Go.Act.put, List.setIfInBounds_toArray, List.set_cons_zero, List.set_cons_succ]
        refine wpL_ready (rs := [3]) (by kernel_rfl) (by simp) (AllL.cons (o := { dst := none, op := Op.store 29 (Operand.tmp 7) (Operand.tmp 133), type := 0, pos := _, after := #[{ on := 1, ground := Ground.data }, { on := 2, ground := Ground.chain }, { on := 0, ground := Ground.phase }, { on := 1, ground := Ground.phase }, { on := 2, ground := Ground.phase }], guard := none }) rfl (fun K' hK => ?_) AllL.nil)
        rw [if_pos (by rfl)]
        go_simp
        refine hK.out _ _ (fun h => absurd h (by decide)) ?_
        clear hK
        try simp only [Go.Act.put, List.setIfInBounds_toArray, List.set_cons_zero, List.set_cons_succ]
        refine wpL_takeY (i := 4) (v := (.bool true)) (some 8) rfl rfl (by kernel_rfl) (by kernel_rfl) (by kernel_rfl) (by decide) (fun _ _ _ h => h) (Or.inl ⟨by rfl, fun w' hS => (by go_simp)⟩) (fun h => absurd h (by decide)) ?_
        try simp only [Go.Act.put, List.setIfInBounds_toArray, List.set_cons_zero, List.set_cons_succ]
        refine wpL_done (by kernel_rfl) ?_ _
        clear E0 E1 E2 s0
        go_wp2
        refine bodyPost_ret (v := .tuple #[PT s, .agg #[.int .i64 (X.b : Nat), .slice (some ⟨G, 0, none⟩) X.r cp, .int .u64 (X.t : Nat)], .bool true]) (by simp [results, Try.results8, go_sem, PT, v0, v1, v2]) rfl ⟨_, _, rfl, s, g, cap, X, G, cp, Q, Cp, rfl, rfl, ?_, ?_, HE.out.1, HE.out.2, HP7.out.ks, HP7.out.kg, ?_⟩
        · have tt : Touch [w.heap.size] W7 _ := (((Touch.refl _ W7).setCell (p := ⟨w.heap.size, 0, none⟩) (Or.inl (by simp)) (.int .i64 (X.b : Nat))).setCell (p := ⟨w.heap.size, 1, none⟩) (Or.inl (by simp)) (.slice (some ⟨G, 0, none⟩) X.r cp)).setCell (p := ⟨w.heap.size, 2, none⟩) (Or.inl (by simp)) (.int .u64 (X.t : Nat))
          have hm := kq_apart HP7.out.k HP7.out.z
          simp only [List.mem_cons, List.mem_nil_iff, or_false, not_or] at hm
          exact HP7.out.k.keep tt (by simp; exact Ne.symm hm.1) (by simp; exact Ne.symm hm.2)
        · have tt : Touch [w.heap.size] W7 _ := (((Touch.refl _ W7).setCell (p := ⟨w.heap.size, 0, none⟩) (Or.inl (by simp)) (.int .i64 (X.b : Nat))).setCell (p := ⟨w.heap.size, 1, none⟩) (Or.inl (by simp)) (.slice (some ⟨G, 0, none⟩) X.r cp)).setCell (p := ⟨w.heap.size, 2, none⟩) (Or.inl (by simp)) (.int .u64 (X.t : Nat))
          obtain ⟨a1, a2⟩ := HP7.out.d.apart HP7.out.z (by decide) (by decide)
          exact HP7.out.d.keep tt (by simp [a1]) (fun j hj => by simp [a2 j hj])
        · exact ((HP7.out.t.setCell (p := ⟨w.heap.size, 0, none⟩) (Or.inr (Nat.le_refl _)) _).setCell (p := ⟨w.heap.size, 1, none⟩) (Or.inr (Nat.le_refl _)) _).setCell (p := ⟨w.heap.size, 2, none⟩) (Or.inr (Nat.le_refl _)) _
end
end Go.Proofs.Ytbadlkjffelkhaa.Sk
