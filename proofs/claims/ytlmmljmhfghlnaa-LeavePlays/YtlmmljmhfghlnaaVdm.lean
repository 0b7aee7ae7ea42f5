/- The contract of the document's Empty; no conditions but those that it states. -/
import Derived.Test.YtlmmljmhfghlnaaVdk
namespace Go.Proofs.Ytlmmljmhfghlnaa
open Go.RowKit Go.Maps Go.ChangeMaps
set_option linter.unusedVariables false
set_option linter.unusedSimpArgs false
set_option maxHeartbeats 8000000 in
set_option maxRecDepth 100000 in
theorem rempty_ (w : World) (u v : Value) (L : List Se) (G : List Int) (h : Dd w u v L G) (rs : List Int) (rv : Value) (hr : Ra w rv rs) (hl : L.length ≤ 4500000000000) (hn : rs.length ≤ 17592186043904) : Calls Try.prog 20 #[.agg #[u, v], rv] w fun e w' => IlE e w w' (emq L rs) := by
  obtain ⟨a, cu, a', cv, rfl, rfl⟩ := h.fm
  obtain ⟨ra, rc, rfl⟩ := hr.fm
  obtain ⟨V, hV⟩ : ∃ V, V = w.alloc (.cells #[.slice a L.length cu, .slice a' G.length cv] 29) := ⟨_, rfl⟩
  have tv : Touch [] w V := by rw [hV]; exact (Touch.refl _ _).alloc _
  have hb0 : V.heap[w.heap.size]? = some (.cells #[.slice a L.length cu, .slice a' G.length cv] 29 (0, 0)) := by rw [hV]; exact heap_alloc_new w _
  have HB0 : Hid (∀ w', Touch [] V w' → w'.cell? ⟨w.heap.size, 0, none⟩ = some (.slice a L.length cu)) := hid (fun w' t => cell_at (t.keep hb0 (by simp)) rfl)
  have HB1 : Hid (∀ w', Touch [] V w' → w'.cell? ⟨w.heap.size, 1, none⟩ = some (.slice a' G.length cv)) := hid (fun w' t => cell_at (t.keep hb0 (by simp)) rfl)
  have HRS : Hid (∀ w', Touch [] V w' → ∀ i r, rs[i]? = some r → ∃ g off, ra = some ⟨g, off, none⟩ ∧ w'.cell? ⟨g, off + i, none⟩ = some (.int .i64 r)) := hid (fun w' t i r hi => (hr.keep0 (tv.trans' t)).at1 hi)
  have HOF : Hid (∀ w', Touch [] V w' → ∀ r, Calls Try.prog 12 #[.agg #[.slice a L.length cu, .slice a' G.length cv], .int .i64 1, .int .i64 r] w' fun e w2 => ∃ a2 c2, e = .returned (.slice a2 (inL 1 r L).length c2) ∧ Touch [] w' w2) := hid (fun w' t r => by
    refine (rof_ w' _ _ L G (h.keep0 (tv.trans' t)) 1 (by omega) r (by omega)).mono ?_
    rintro e w2 ⟨a2, n2, c2, rfl, q1, q2⟩
    obtain ⟨a3, c3, e3⟩ := q1.fm
    rw [List.length_map] at e3
    cases e3
    exact ⟨_, _, rfl, q2⟩)
  have HTV := hid tv
  have H0 : Hid ((V.alloc (.cells #[] 3)).ownsRow V.heap.size 3 1 (.slice (some ⟨V.heap.size, 0, none⟩) 0 0) 0 (ints (emq L (rs.take 0)))) := hid (World.ownsRow_made (e := 3) (size := 1) V #[] 0 (Nat.le_refl _) (by unfold maxLen; omega) rfl)
  obtain ⟨n, hN⟩ : ∃ n, n = rs.length := ⟨_, rfl⟩
  have HN := hid hN
  have HL := hid hn
  rw [← hN] at hn ⊢
  have zl : (n : Int) < 9223372036854775807 := by omega
  clear h tv hb0 hN hn hl hr
  go_enter Try.func20, Try.ntmps20
  go_upto_region 1 with fail
  rw [← hV]
  clear hV
  go_wp2
  go_loopw [5, 6] (fun s5 s6 wr => ∃ (i : Nat) (a5 : Option Addr) (m c5 : Nat), s5 = .slice a5 m c5 ∧ s6 = .int .i64 (i : Int) ∧ i ≤ n ∧ Hid (m = (emq L (rs.take i)).length ∧ Touch [] V wr ∧ wr.ownsRow V.heap.size 3 1 (.slice a5 m c5) m (ints (emq L (rs.take i))))) (fun _ s _ => n - (intOf s).toNat)
  case atStart => exact ⟨0, _, 0, _, rfl, rfl, Nat.zero_le _, rfl, (Touch.refl _ _).alloc _, H0.out⟩
  case round =>
    clear H0
    obtain ⟨i, a5, m, c5, rfl, rfl, hi, HR⟩ := hrel
    by_cases hlt : i < n
    · have zi : (i : Int) < (n : Int) := by omega
      obtain ⟨r, hr⟩ : ∃ r, rs[i]? = some r := ⟨_, List.getElem?_eq_getElem (by have := HN.out; omega)⟩
      obtain ⟨g, off, hg, _⟩ := HRS.out wr HR.out.2.1 i r hr
      subst hg
      have E0 : ∀ w', Touch [] wr w' → w'.cell? ⟨g, off + i, none⟩ = some (.int .i64 r) := fun w' t => by
        obtain ⟨g', off', e, q⟩ := HRS.out w' (HR.out.2.1.trans' t) i r hr
        cases e
        exact q
      have U0 : ∀ w', Touch [] wr w' → w'.cell? ⟨w.heap.size, 0, none⟩ = some (.slice a L.length cu) := fun w' t => HB0.out w' (HR.out.2.1.trans' t)
      have U1 : ∀ w', Touch [] wr w' → w'.cell? ⟨w.heap.size, 1, none⟩ = some (.slice a' G.length cv) := fun w' t => HB1.out w' (HR.out.2.1.trans' t)
      have HO2 : Hid (∀ w', Touch [] wr w' → Calls Try.prog 12 #[.agg #[.slice a L.length cu, .slice a' G.length cv], .int .i64 1, .int .i64 r] w' fun e w2 => ∃ a2 c2, e = .returned (.slice a2 (inL 1 r L).length c2) ∧ Touch [] w' w2) := hid (fun w' t => HOF.out w' (HR.out.2.1.trans' t) r)
      have HS := hid (emq_snoc (L := L) hr)
      have HLN : Hid ((emq L (rs.take i)).length ≤ i) := hid (emq_len L rs i)
      obtain ⟨acc, hacc⟩ : ∃ acc, acc = emq L (rs.take i) := ⟨_, rfl⟩
      rw [← hacc] at HR HS HLN
      have HI := hid (And.intro hi hlt)
      have HHS : Hid (∀ w', Touch [] wr w' → Calls Try.prog 32 #[.slice a5 m c5, .int .i64 r] w' fun e w2 => e = .returned (.bool (decide (r ∈ acc))) ∧ Touch [] w' w2) := hid (fun w' t => by
        have r1 := own_touch HR.out.2.2 t (fun _ _ e => by cases e)
        rw [HR.out.1] at r1 ⊢
        exact rhas_ w' _ acc r (Rs.of_own r1) (by have := HLN.out; have := HL.out; have := HN.out; omega))
      have k0 : Touch [] wr wr.drew := (Touch.refl _ _).drew
      clear hr hacc
      go_upto_region 5 with fail
      by_cases h2 : inL 1 r L = []
      · rw [h2] at HO2
        by_cases h1 : r ∈ acc
        · rw [decide_eq_true h1] at HHS
          have HSS : Hid (emq L (rs.take (i + 1)) = acc) := hid (by rw [HS.out]; unfold emS; rw [if_neg (fun e => e.2 h1)])
          clear h1 h2 HS
          refine wp_region_H (S := fun w' => Touch [] wr w') (by kernel_rfl) ?_
          refine wpH_take (i := 0) (v := (.agg #[.slice a L.length cu, .slice a' G.length cv])) (some 14) rfl rfl (by kernel_rfl) (by kernel_rfl) (by kernel_rfl) (fun _ _ _ h => h) (Or.inl ⟨by rfl, fun w' hS => (by have z0 := U0 _ hS; have z1 := U1 _ hS; go_simp)⟩) k0 ?_
          try simp only [Go.Act.put, List.setIfInBounds_toArray, List.set_cons_zero, List.set_cons_succ]
          refine wpH_take (i := 1) (v := (.slice (some ⟨g, off, none⟩) n rc)) (some 15) rfl rfl (by kernel_rfl) (by kernel_rfl) (by kernel_rfl) (fun _ _ _ h => h) (Or.inl ⟨by rfl, fun w' hS => (by go_simp)⟩) k0 ?_
          try simp only [Go.Act.put, List.setIfInBounds_toArray, List.set_cons_zero, List.set_cons_succ]
          refine wpH_take (i := 2) (v := (.int .i64 (i : Int))) (some 16) rfl rfl (by kernel_rfl) (by kernel_rfl) (by kernel_rfl) (fun _ _ _ h => h) (Or.inl ⟨by rfl, fun w' hS => (by go_simp)⟩) k0 ?_
          try simp only [Go.Act.put, List.setIfInBounds_toArray, List.set_cons_zero, List.set_cons_succ]
          refine wpH_take (i := 3) (v := (.pointer (some ⟨g, off + i, none⟩))) (some 17) rfl rfl (by kernel_rfl) (by kernel_rfl) (by kernel_rfl) (fun _ _ _ h => h) (Or.inl ⟨by rfl, fun w' hS => (by go_simp)⟩) k0 ?_
          try simp only [Go.Act.put, List.setIfInBounds_toArray, List.set_cons_zero, List.set_cons_succ]
          refine wpH_take (i := 4) (v := (.int .i64 r)) (some 18) rfl rfl (by kernel_rfl) (by kernel_rfl) (by kernel_rfl) (fun _ _ _ h => h) (Or.inl ⟨by rfl, fun w' hS => (by have z0 := E0 _ hS; go_simp)⟩) k0 ?_
          try simp only [Go.Act.put, List.setIfInBounds_toArray, List.set_cons_zero, List.set_cons_succ]
          refine wpH_call (i := 5) (o := { dst := some 19, op := Op.call { callee := Callee.value (Operand.func 12), args := #[Operand.tmp 14, Operand.const (Value.int IntKind.i64 1), Operand.tmp 18], argTypes := #[29, 3, 3] }, type := 23, pos := _, after := #[{ on := 0, ground := Ground.data }, { on := 4, ground := Ground.data }], guard := none }) (by kernel_rfl) rfl (fun K' hK => ?_)
          rw [if_pos (by rfl)]
          go_simp
          refine (HO2.out _ k0).mono ?_
          rintro e' w2 ⟨a2, c2, rfl, s2⟩
          have k2 : Touch [] wr w2 := k0.trans' s2
          refine hK.out _ _ k2 ?_
          clear hK
          try simp only [Go.Act.put, List.setIfInBounds_toArray, List.set_cons_zero, List.set_cons_succ]
          refine wpH_take (i := 6) (v := (.int .i64 0)) (some 20) rfl rfl (by kernel_rfl) (by kernel_rfl) (by kernel_rfl) (fun _ _ _ h => h) (Or.inl ⟨by rfl, fun w' hS => (by go_simp)⟩) k2 ?_
          try simp only [Go.Act.put, List.setIfInBounds_toArray, List.set_cons_zero, List.set_cons_succ]
          refine wpH_take (i := 7) (v := (.bool true)) (some 21) rfl rfl (by kernel_rfl) (by kernel_rfl) (by kernel_rfl) (fun _ _ _ h => h) (Or.inl ⟨by rfl, fun w' hS => (by go_simp)⟩) k2 ?_
          try simp only [Go.Act.put, List.setIfInBounds_toArray, List.set_cons_zero, List.set_cons_succ]
          refine wpH_take (i := 8) (v := (.bool true)) (some 22) rfl rfl (by kernel_rfl) (by kernel_rfl) (by kernel_rfl) (fun _ _ _ h => h) (Or.inl ⟨by rfl, fun w' hS => (by go_simp)⟩) k2 ?_
          try simp only [Go.Act.put, List.setIfInBounds_toArray, List.set_cons_zero, List.set_cons_succ]
          refine wpH_take (i := 9) (v := (.slice a5 m c5)) (some 23) rfl rfl (by kernel_rfl) (by kernel_rfl) (by kernel_rfl) (fun _ _ _ h => h) (Or.inl ⟨by rfl, fun w' hS => (by go_simp)⟩) k2 ?_
          try simp only [Go.Act.put, List.setIfInBounds_toArray, List.set_cons_zero, List.set_cons_succ]
          refine wpH_take (i := 10) (v := (.slice (some ⟨g, off, none⟩) n rc)) (some 24) rfl rfl (by kernel_rfl) (by kernel_rfl) (by kernel_rfl) (fun _ _ _ h => h) (Or.inl ⟨by rfl, fun w' hS => (by go_simp)⟩) k2 ?_
          try simp only [Go.Act.put, List.setIfInBounds_toArray, List.set_cons_zero, List.set_cons_succ]
          refine wpH_take (i := 11) (v := (.int .i64 (i : Int))) (some 25) rfl rfl (by kernel_rfl) (by kernel_rfl) (by kernel_rfl) (fun _ _ _ h => h) (Or.inl ⟨by rfl, fun w' hS => (by go_simp)⟩) k2 ?_
          try simp only [Go.Act.put, List.setIfInBounds_toArray, List.set_cons_zero, List.set_cons_succ]
          refine wpH_take (i := 12) (v := (.pointer (some ⟨g, off + i, none⟩))) (some 26) rfl rfl (by kernel_rfl) (by kernel_rfl) (by kernel_rfl) (fun _ _ _ h => h) (Or.inl ⟨by rfl, fun w' hS => (by go_simp)⟩) k2 ?_
          try simp only [Go.Act.put, List.setIfInBounds_toArray, List.set_cons_zero, List.set_cons_succ]
          refine wpH_take (i := 13) (v := (.int .i64 r)) (some 27) rfl rfl (by kernel_rfl) (by kernel_rfl) (by kernel_rfl) (fun _ _ _ h => h) (Or.inl ⟨by rfl, fun w' hS => (by have z0 := E0 _ hS; go_simp)⟩) k2 ?_
          try simp only [Go.Act.put, List.setIfInBounds_toArray, List.set_cons_zero, List.set_cons_succ]
          refine wpH_call (i := 14) (o := { dst := some 28, op := Op.call { callee := Callee.value (Operand.func 32), args := #[Operand.tmp 23, Operand.tmp 27], argTypes := #[23, 3] }, type := 4, pos := _, after := #[{ on := 9, ground := Ground.data }, { on := 13, ground := Ground.data }, { on := 8, ground := Ground.chain }, { on := 8, ground := Ground.guard }], guard := some (8, true) }) (by kernel_rfl) rfl (fun K' hK => ?_)
          rw [if_pos (by rfl)]
          go_simp
          refine (HHS.out _ k2).mono ?_
          rintro e' w3 ⟨rfl, s3⟩
          have k3 : Touch [] wr w3 := k2.trans' s3
          refine hK.out _ _ k3 ?_
          clear hK
          try simp only [Go.Act.put, List.setIfInBounds_toArray, List.set_cons_zero, List.set_cons_succ]
          refine wpH_take (i := 15) (v := (.bool false)) (some 29) rfl rfl (by kernel_rfl) (by kernel_rfl) (by kernel_rfl) (fun _ _ _ h => h) (Or.inl ⟨by rfl, fun w' hS => (by go_simp)⟩) k3 ?_
          try simp only [Go.Act.put, List.setIfInBounds_toArray, List.set_cons_zero, List.set_cons_succ]
          refine wpH_take (i := 16) (v := (.bool false)) (some 30) rfl rfl (by kernel_rfl) (by kernel_rfl) (by kernel_rfl) (fun _ _ _ h => h) (Or.inl ⟨by rfl, fun w' hS => (by go_simp)⟩) k3 ?_
          try simp only [Go.Act.put, List.setIfInBounds_toArray, List.set_cons_zero, List.set_cons_succ]
          refine wpAnyH_done (by kernel_rfl) ?_ _
          go_wp2
          go_roundw
          case rel => exact ⟨i + 1, a5, m, c5, rfl, by go_num, by have := HI.out; omega, by rw [HSS.out]; exact HR.out.1, HR.out.2.1.trans' k3, by rw [HSS.out]; exact own_touch HR.out.2.2 k3 (fun _ _ e => by cases e)⟩
          case measure => simp [intOf]; have := HI.out; omega
        · rw [decide_eq_false h1] at HHS
          have HSS : Hid (emq L (rs.take (i + 1)) = acc ++ [r]) := hid (by rw [HS.out]; unfold emS; rw [if_pos ⟨h2, h1⟩])
          clear h1 h2 HS
          refine wp_region_H (S := fun w' => Touch [] wr w') (by kernel_rfl) ?_
          refine wpH_take (i := 0) (v := (.agg #[.slice a L.length cu, .slice a' G.length cv])) (some 14) rfl rfl (by kernel_rfl) (by kernel_rfl) (by kernel_rfl) (fun _ _ _ h => h) (Or.inl ⟨by rfl, fun w' hS => (by have z0 := U0 _ hS; have z1 := U1 _ hS; go_simp)⟩) k0 ?_
          try simp only [Go.Act.put, List.setIfInBounds_toArray, List.set_cons_zero, List.set_cons_succ]
          refine wpH_take (i := 1) (v := (.slice (some ⟨g, off, none⟩) n rc)) (some 15) rfl rfl (by kernel_rfl) (by kernel_rfl) (by kernel_rfl) (fun _ _ _ h => h) (Or.inl ⟨by rfl, fun w' hS => (by go_simp)⟩) k0 ?_
          try simp only [Go.Act.put, List.setIfInBounds_toArray, List.set_cons_zero, List.set_cons_succ]
          refine wpH_take (i := 2) (v := (.int .i64 (i : Int))) (some 16) rfl rfl (by kernel_rfl) (by kernel_rfl) (by kernel_rfl) (fun _ _ _ h => h) (Or.inl ⟨by rfl, fun w' hS => (by go_simp)⟩) k0 ?_
          try simp only [Go.Act.put, List.setIfInBounds_toArray, List.set_cons_zero, List.set_cons_succ]
          refine wpH_take (i := 3) (v := (.pointer (some ⟨g, off + i, none⟩))) (some 17) rfl rfl (by kernel_rfl) (by kernel_rfl) (by kernel_rfl) (fun _ _ _ h => h) (Or.inl ⟨by rfl, fun w' hS => (by go_simp)⟩) k0 ?_
          try simp only [Go.Act.put, List.setIfInBounds_toArray, List.set_cons_zero, List.set_cons_succ]
          refine wpH_take (i := 4) (v := (.int .i64 r)) (some 18) rfl rfl (by kernel_rfl) (by kernel_rfl) (by kernel_rfl) (fun _ _ _ h => h) (Or.inl ⟨by rfl, fun w' hS => (by have z0 := E0 _ hS; go_simp)⟩) k0 ?_
          try simp only [Go.Act.put, List.setIfInBounds_toArray, List.set_cons_zero, List.set_cons_succ]
          refine wpH_call (i := 5) (o := { dst := some 19, op := Op.call { callee := Callee.value (Operand.func 12), args := #[Operand.tmp 14, Operand.const (Value.int IntKind.i64 1), Operand.tmp 18], argTypes := #[29, 3, 3] }, type := 23, pos := _, after := #[{ on := 0, ground := Ground.data }, { on := 4, ground := Ground.data }], guard := none }) (by kernel_rfl) rfl (fun K' hK => ?_)
          rw [if_pos (by rfl)]
          go_simp
          refine (HO2.out _ k0).mono ?_
          rintro e' w2 ⟨a2, c2, rfl, s2⟩
          have k2 : Touch [] wr w2 := k0.trans' s2
          refine hK.out _ _ k2 ?_
          clear hK
          try simp only [Go.Act.put, List.setIfInBounds_toArray, List.set_cons_zero, List.set_cons_succ]
          refine wpH_take (i := 6) (v := (.int .i64 0)) (some 20) rfl rfl (by kernel_rfl) (by kernel_rfl) (by kernel_rfl) (fun _ _ _ h => h) (Or.inl ⟨by rfl, fun w' hS => (by go_simp)⟩) k2 ?_
          try simp only [Go.Act.put, List.setIfInBounds_toArray, List.set_cons_zero, List.set_cons_succ]
          refine wpH_take (i := 7) (v := (.bool true)) (some 21) rfl rfl (by kernel_rfl) (by kernel_rfl) (by kernel_rfl) (fun _ _ _ h => h) (Or.inl ⟨by rfl, fun w' hS => (by go_simp)⟩) k2 ?_
          try simp only [Go.Act.put, List.setIfInBounds_toArray, List.set_cons_zero, List.set_cons_succ]
          refine wpH_take (i := 8) (v := (.bool true)) (some 22) rfl rfl (by kernel_rfl) (by kernel_rfl) (by kernel_rfl) (fun _ _ _ h => h) (Or.inl ⟨by rfl, fun w' hS => (by go_simp)⟩) k2 ?_
          try simp only [Go.Act.put, List.setIfInBounds_toArray, List.set_cons_zero, List.set_cons_succ]
          refine wpH_take (i := 9) (v := (.slice a5 m c5)) (some 23) rfl rfl (by kernel_rfl) (by kernel_rfl) (by kernel_rfl) (fun _ _ _ h => h) (Or.inl ⟨by rfl, fun w' hS => (by go_simp)⟩) k2 ?_
          try simp only [Go.Act.put, List.setIfInBounds_toArray, List.set_cons_zero, List.set_cons_succ]
          refine wpH_take (i := 10) (v := (.slice (some ⟨g, off, none⟩) n rc)) (some 24) rfl rfl (by kernel_rfl) (by kernel_rfl) (by kernel_rfl) (fun _ _ _ h => h) (Or.inl ⟨by rfl, fun w' hS => (by go_simp)⟩) k2 ?_
          try simp only [Go.Act.put, List.setIfInBounds_toArray, List.set_cons_zero, List.set_cons_succ]
          refine wpH_take (i := 11) (v := (.int .i64 (i : Int))) (some 25) rfl rfl (by kernel_rfl) (by kernel_rfl) (by kernel_rfl) (fun _ _ _ h => h) (Or.inl ⟨by rfl, fun w' hS => (by go_simp)⟩) k2 ?_
          try simp only [Go.Act.put, List.setIfInBounds_toArray, List.set_cons_zero, List.set_cons_succ]
          refine wpH_take (i := 12) (v := (.pointer (some ⟨g, off + i, none⟩))) (some 26) rfl rfl (by kernel_rfl) (by kernel_rfl) (by kernel_rfl) (fun _ _ _ h => h) (Or.inl ⟨by rfl, fun w' hS => (by go_simp)⟩) k2 ?_
          try simp only [Go.Act.put, List.setIfInBounds_toArray, List.set_cons_zero, List.set_cons_succ]
          refine wpH_take (i := 13) (v := (.int .i64 r)) (some 27) rfl rfl (by kernel_rfl) (by kernel_rfl) (by kernel_rfl) (fun _ _ _ h => h) (Or.inl ⟨by rfl, fun w' hS => (by have z0 := E0 _ hS; go_simp)⟩) k2 ?_
          try simp only [Go.Act.put, List.setIfInBounds_toArray, List.set_cons_zero, List.set_cons_succ]
          refine wpH_call (i := 14) (o := { dst := some 28, op := Op.call { callee := Callee.value (Operand.func 32), args := #[Operand.tmp 23, Operand.tmp 27], argTypes := #[23, 3] }, type := 4, pos := _, after := #[{ on := 9, ground := Ground.data }, { on := 13, ground := Ground.data }, { on := 8, ground := Ground.chain }, { on := 8, ground := Ground.guard }], guard := some (8, true) }) (by kernel_rfl) rfl (fun K' hK => ?_)
          rw [if_pos (by rfl)]
          go_simp
          refine (HHS.out _ k2).mono ?_
          rintro e' w3 ⟨rfl, s3⟩
          have k3 : Touch [] wr w3 := k2.trans' s3
          refine hK.out _ _ k3 ?_
          clear hK
          try simp only [Go.Act.put, List.setIfInBounds_toArray, List.set_cons_zero, List.set_cons_succ]
          refine wpH_take (i := 15) (v := (.bool true)) (some 29) rfl rfl (by kernel_rfl) (by kernel_rfl) (by kernel_rfl) (fun _ _ _ h => h) (Or.inl ⟨by rfl, fun w' hS => (by go_simp)⟩) k3 ?_
          try simp only [Go.Act.put, List.setIfInBounds_toArray, List.set_cons_zero, List.set_cons_succ]
          refine wpH_take (i := 16) (v := (.bool true)) (some 30) rfl rfl (by kernel_rfl) (by kernel_rfl) (by kernel_rfl) (fun _ _ _ h => h) (Or.inl ⟨by rfl, fun w' hS => (by go_simp)⟩) k3 ?_
          try simp only [Go.Act.put, List.setIfInBounds_toArray, List.set_cons_zero, List.set_cons_succ]
          refine wpAnyH_done (by kernel_rfl) ?_ _
          have e0 := E0 _ k3
          have HROW : Hid ((w3.alloc (.cells #[.int .i64 r] 3)).ownsRow V.heap.size 3 1 (.slice a5 m c5) m (ints acc)) := hid (own_touch (own_touch HR.out.2.2 k3 (fun _ _ e => by cases e)) ((Touch.refl [] _).alloc _) (fun _ _ e => by cases e))
          have HRW : Hid (Rs 3 1 (w3.alloc (.cells #[.int .i64 r] 3)) (.slice (some ⟨w3.heap.size, 0, none⟩) 1 1) 1 [.int .i64 r]) := hid (Rs.new w3 #[.int .i64 r] 3 1 rfl)
          have HT3 : Hid (Touch [] V (w3.alloc (.cells #[.int .i64 r] 3))) := hid ((HR.out.2.1.trans' k3).alloc _)
          have HM := hid HR.out.1
          clear U0 U1 E0 k0 k2 k3 s2 s3 HO2 HHS
          go_wp2_with (at_builtin; refine wpList_append_rs rfl _ _ 23 3 rfl (.int .i64 0) 1 8 info3 Try.underlying23 rfl (by decide) V.heap.size (.slice a5 m c5) m (ints acc) rfl HROW.out (.slice (some ⟨w3.heap.size, 0, none⟩) 1 1) 1 [.int .i64 r] rfl HRW.out (fun y hy => by simp only [List.mem_singleton] at hy; subst hy; rfl) (by have := HM.out; have := HLN.out; have := HI.out; have := HL.out; have := HN.out; unfold maxLen; omega) (by have := HM.out; have := HLN.out; have := HI.out; have := HL.out; have := HN.out; omega) HT3.out.size ?_; intro v5 w5 o5 g5 _; have T5 := hid (touch_grown HT3.out g5 HROW.out (Nat.le_refl _)); obtain ⟨a6, c6, e6⟩ := own_form o5; subst e6; have O5 := hid o5; clear o5 g5)
          go_roundw
          case rel =>
            refine ⟨i + 1, a6, m + 1, c6, rfl, by go_num, by have := HI.out; omega, ?_, T5.out, ?_⟩
            · rw [HSS.out, List.length_append, HM.out]; rfl
            · rw [HSS.out]
              have := O5.out
              unfold ints at this ⊢
              rw [List.map_append]
              exact this
          case measure => simp [intOf]; have := HI.out; omega
      · have HSS : Hid (emq L (rs.take (i + 1)) = acc) := hid (by rw [HS.out]; unfold emS; rw [if_neg (fun e => h2 e.1)])
        have hk : 0 < (inL 1 r L).length := List.length_pos_iff.2 h2
        generalize (inL 1 r L).length = K at *
        have hkb : ((K : Int) == 0) = false := by simp; omega
        clear h2 HS hk HHS
        refine wp_region_H (S := fun w' => Touch [] wr w') (by kernel_rfl) ?_
        refine wpH_take (i := 0) (v := (.agg #[.slice a L.length cu, .slice a' G.length cv])) (some 14) rfl rfl (by kernel_rfl) (by kernel_rfl) (by kernel_rfl) (fun _ _ _ h => h) (Or.inl ⟨by rfl, fun w' hS => (by have z0 := U0 _ hS; have z1 := U1 _ hS; go_simp)⟩) k0 ?_
        try simp only [Go.Act.put, List.setIfInBounds_toArray, List.set_cons_zero, List.set_cons_succ]
        refine wpH_take (i := 1) (v := (.slice (some ⟨g, off, none⟩) n rc)) (some 15) rfl rfl (by kernel_rfl) (by kernel_rfl) (by kernel_rfl) (fun _ _ _ h => h) (Or.inl ⟨by rfl, fun w' hS => (by go_simp)⟩) k0 ?_
        try simp only [Go.Act.put, List.setIfInBounds_toArray, List.set_cons_zero, List.set_cons_succ]
        refine wpH_take (i := 2) (v := (.int .i64 (i : Int))) (some 16) rfl rfl (by kernel_rfl) (by kernel_rfl) (by kernel_rfl) (fun _ _ _ h => h) (Or.inl ⟨by rfl, fun w' hS => (by go_simp)⟩) k0 ?_
        try simp only [Go.Act.put, List.setIfInBounds_toArray, List.set_cons_zero, List.set_cons_succ]
        refine wpH_take (i := 3) (v := (.pointer (some ⟨g, off + i, none⟩))) (some 17) rfl rfl (by kernel_rfl) (by kernel_rfl) (by kernel_rfl) (fun _ _ _ h => h) (Or.inl ⟨by rfl, fun w' hS => (by go_simp)⟩) k0 ?_
        try simp only [Go.Act.put, List.setIfInBounds_toArray, List.set_cons_zero, List.set_cons_succ]
        refine wpH_take (i := 4) (v := (.int .i64 r)) (some 18) rfl rfl (by kernel_rfl) (by kernel_rfl) (by kernel_rfl) (fun _ _ _ h => h) (Or.inl ⟨by rfl, fun w' hS => (by have z0 := E0 _ hS; go_simp)⟩) k0 ?_
        try simp only [Go.Act.put, List.setIfInBounds_toArray, List.set_cons_zero, List.set_cons_succ]
        refine wpH_call (i := 5) (o := { dst := some 19, op := Op.call { callee := Callee.value (Operand.func 12), args := #[Operand.tmp 14, Operand.const (Value.int IntKind.i64 1), Operand.tmp 18], argTypes := #[29, 3, 3] }, type := 23, pos := _, after := #[{ on := 0, ground := Ground.data }, { on := 4, ground := Ground.data }], guard := none }) (by kernel_rfl) rfl (fun K' hK => ?_)
        rw [if_pos (by rfl)]
        go_simp
        refine (HO2.out _ k0).mono ?_
        rintro e' w2 ⟨a2, c2, rfl, s2⟩
        have k2 : Touch [] wr w2 := k0.trans' s2
        refine hK.out _ _ k2 ?_
        clear hK
        try simp only [Go.Act.put, List.setIfInBounds_toArray, List.set_cons_zero, List.set_cons_succ]
        refine wpH_take (i := 6) (v := (.int .i64 (K : Int))) (some 20) rfl rfl (by kernel_rfl) (by kernel_rfl) (by kernel_rfl) (fun _ _ _ h => h) (Or.inl ⟨by rfl, fun w' hS => (by go_simp)⟩) k2 ?_
        try simp only [Go.Act.put, List.setIfInBounds_toArray, List.set_cons_zero, List.set_cons_succ]
        refine wpH_take (i := 7) (v := (.bool false)) (some 21) rfl rfl (by kernel_rfl) (by kernel_rfl) (by kernel_rfl) (fun _ _ _ h => h) (Or.inl ⟨by rfl, fun w' hS => (by go_simp)⟩) k2 ?_
        try simp only [Go.Act.put, List.setIfInBounds_toArray, List.set_cons_zero, List.set_cons_succ]
        refine wpH_take (i := 8) (v := (.bool false)) (some 22) rfl rfl (by kernel_rfl) (by kernel_rfl) (by kernel_rfl) (fun _ _ _ h => h) (Or.inl ⟨by rfl, fun w' hS => (by go_simp)⟩) k2 ?_
        try simp only [Go.Act.put, List.setIfInBounds_toArray, List.set_cons_zero, List.set_cons_succ]
        refine wpH_take (i := 9) (v := undef) (some 23) rfl rfl (by kernel_rfl) (by kernel_rfl) (by kernel_rfl) (fun _ _ _ h => h) (Or.inr ⟨by rfl, rfl⟩) k2 ?_
        try simp only [Go.Act.put, List.setIfInBounds_toArray, List.set_cons_zero, List.set_cons_succ]
        refine wpH_take (i := 10) (v := undef) (some 24) rfl rfl (by kernel_rfl) (by kernel_rfl) (by kernel_rfl) (fun _ _ _ h => h) (Or.inr ⟨by rfl, rfl⟩) k2 ?_
        try simp only [Go.Act.put, List.setIfInBounds_toArray, List.set_cons_zero, List.set_cons_succ]
        refine wpH_take (i := 11) (v := undef) (some 25) rfl rfl (by kernel_rfl) (by kernel_rfl) (by kernel_rfl) (fun _ _ _ h => h) (Or.inr ⟨by rfl, rfl⟩) k2 ?_
        try simp only [Go.Act.put, List.setIfInBounds_toArray, List.set_cons_zero, List.set_cons_succ]
        refine wpH_take (i := 12) (v := undef) (some 26) rfl rfl (by kernel_rfl) (by kernel_rfl) (by kernel_rfl) (fun _ _ _ h => h) (Or.inr ⟨by rfl, rfl⟩) k2 ?_
        try simp only [Go.Act.put, List.setIfInBounds_toArray, List.set_cons_zero, List.set_cons_succ]
        refine wpH_take (i := 13) (v := undef) (some 27) rfl rfl (by kernel_rfl) (by kernel_rfl) (by kernel_rfl) (fun _ _ _ h => h) (Or.inr ⟨by rfl, rfl⟩) k2 ?_
        try simp only [Go.Act.put, List.setIfInBounds_toArray, List.set_cons_zero, List.set_cons_succ]
        refine wpH_take (i := 14) (v := undef) (some 28) rfl rfl (by kernel_rfl) (by kernel_rfl) (by kernel_rfl) (fun _ _ _ h => h) (Or.inr ⟨by rfl, rfl⟩) k2 ?_
        try simp only [Go.Act.put, List.setIfInBounds_toArray, List.set_cons_zero, List.set_cons_succ]
        refine wpH_take (i := 15) (v := undef) (some 29) rfl rfl (by kernel_rfl) (by kernel_rfl) (by kernel_rfl) (fun _ _ _ h => h) (Or.inr ⟨by rfl, rfl⟩) k2 ?_
        try simp only [Go.Act.put, List.setIfInBounds_toArray, List.set_cons_zero, List.set_cons_succ]
        refine wpH_take (i := 16) (v := (.bool false)) (some 30) rfl rfl (by kernel_rfl) (by kernel_rfl) (by kernel_rfl) (fun _ _ _ h => h) (Or.inl ⟨by rfl, fun w' hS => (by go_simp)⟩) k2 ?_
        try simp only [Go.Act.put, List.setIfInBounds_toArray, List.set_cons_zero, List.set_cons_succ]
        refine wpAnyH_done (by kernel_rfl) ?_ _
        go_wp2
        go_roundw
        case rel => exact ⟨i + 1, a5, m, c5, rfl, by go_num, by have := HI.out; omega, by rw [HSS.out]; exact HR.out.1, HR.out.2.1.trans' k2, by rw [HSS.out]; exact own_touch HR.out.2.2 k2 (fun _ _ e => by cases e)⟩
        case measure => simp [intOf]; have := HI.out; omega
    · have HZ : Hid (IlE (.returned (.slice a5 m c5)) w wr (emq L rs)) := hid (by
        obtain ⟨e1, e2, e3⟩ := HR.out
        have e4 := HN.out
        rw [List.take_of_length_le (by omega)] at e1 e3
        refine ⟨a5, m, c5, rfl, ?_, HTV.out.trans' e2⟩
        rw [← e1]
        exact Rs.of_own e3)
      have zi : ¬ (i : Int) < (n : Int) := by omega
      clear HR hlt hi zl
      go_wp2
      go_ret
      exact HZ.out
end Go.Proofs.Ytlmmljmhfghlnaa
