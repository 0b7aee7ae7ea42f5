/- The law's ref, and the document's Check; no conditions but those that each states. -/
import Derived.Test.YthakboiecdjgnaaDoorCbg
import Derived.Test.YthakboiecdjgnaaDoorCfo
namespace Go.Proofs.YthakboiecdjgnaaDoor.Ci
open Go.RowKit Go.Maps Go.ChangeMaps
set_option linter.unusedVariables false
set_option linter.unusedSimpArgs false
theorem sl_ownT {w : World} {B e : Nat} {a : Option Addr} {c : Nat} {L : List Dz} (h : w.ownsRow B e 5 (.slice a L.length c) L.length (cellsD L)) : Sl w a L := fun i hi => by
  obtain ⟨b, c', e, _, _⟩ := own_some h (by omega)
  cases e
  have q := fun j (hj : j < 5) (y : Value) (hy : L[i].cells[j]? = some y) => own_cell h (p := i * 5 + j) (v := y) (by rw [cellsD_at L i j hi hj]; exact hy)
  exact ⟨b, 0, rfl, by simpa using q 0 (by omega) _ rfl, by simpa using q 1 (by omega) _ rfl, by simpa using q 2 (by omega) _ rfl, by simpa using q 3 (by omega) _ rfl, by simpa using q 4 (by omega) _ rfl⟩
set_option maxHeartbeats 2000000 in
set_option maxRecDepth 20000 in
theorem rcheck_ (L : List Dz) (a : Option Addr) (c : Nat) (w : World) (hs : Sl w a L) (hw : Oks L) :
    Calls Tryd.prog 8 #[.slice a L.length c] w fun e w' => e = .returned (.tuple #[.int .i64 (chkZ L).1, .int .i64 (chkZ L).2]) ∧ Touch [] w w' := by
  by_cases hm : 256 < L.length
  · have hm' : (256 : Int) < (L.length : Int) := by omega
    rw [chk_many hm]
    clear hm
    go_enter Tryd.func8, Tryd.ntmps8
    go_wp2
    go_ret2
    exact ⟨rfl, Touch.refl [] _⟩
  · have HS : Hid (Sl w a L ∧ Oks L ∧ L.length ≤ 256) := ⟨hs, hw, by omega⟩
    have hm' : ¬ (256 : Int) < (L.length : Int) := by omega
    have hle : (L.length : Int) ≤ 256 := by omega
    clear hm hs hw
    go_enter Tryd.func8, Tryd.ntmps8
    go_wp2
    go_loopw [4] (fun i wr => ∃ j : Nat, i = .int .i64 j ∧ j ≤ L.length ∧ Hid (∀ k, (hk : k < L.length) → k < j → mayZ L[k] = true) ∧ Hid (Touch [] w wr)) (fun i _ => L.length - (intOf i).toNat)
    case atStart => exact ⟨0, rfl, Nat.zero_le _, fun k _ h => absurd h (Nat.not_lt_zero _), Touch.refl [] _⟩
    case round =>
      obtain ⟨j, rfl, hj, HB, HG⟩ := hrel
      by_cases hlt : j < L.length
      · have hz : (j : Int) < (L.length : Int) := by omega
        obtain ⟨b, off, rfl, c0, c1, c2, c3, c4⟩ := (HS.out.1.touch HG.out) j hlt
        have HC : Hid _ := fun w' => rmay_ L[j] w' (HS.out.2.1 _ (List.getElem_mem hlt)).nm
        obtain ⟨vb, hvb⟩ : ∃ vb, mayZ L[j] = vb := ⟨_, rfl⟩
        have HX : Hid (mayZ L[j] = vb) := hvb
        rw [hvb] at HC
        clear hvb
        generalize L[j].op = x0 at *
        generalize L[j].sp = x1 at *
        generalize L[j].nm = x2 at *
        generalize L[j].n = x3 at *
        generalize L[j].sl = x4 at *
        cases vb with
        | true =>
          go_wp2_with (go_at_call 30; refine (HC.out _).mono ?_; rintro e w1 ⟨rfl, hg⟩)
          go_roundw
          case rel => exact ⟨j + 1, by go_num, by omega, fun k hk h => by rcases (by omega : k < j ∨ k = j) with h' | rfl; exact HB.out k hk h'; exact HX.out, HG.out.trans' hg⟩
          case measure => simp [intOf]; omega
        | false =>
          have HE : Hid (chkZ L = (j, 210)) := chk_at HS.out.2.2 j hlt (fun k hk h => HB.out k hk h) HX.out
          go_wp2_with (go_at_call 30; refine (HC.out _).mono ?_; rintro e w1 ⟨rfl, hg⟩)
          go_ret2
          exact ⟨by rw [HE.out]; rfl, HG.out.trans' hg⟩
      · have hz : ¬ (j : Int) < (L.length : Int) := by omega
        have HE : Hid (chkZ L = (0, 0)) := chk_end HS.out.2.2 (fun k hk => HB.out k hk (by omega))
        go_wp2
        go_ret2
        exact ⟨by rw [HE.out]; rfl, HG.out⟩
theorem infoR : (Tryd.prog.info? 85).map (fun i => (i.zero, i.size, i.bytes)) = some (some (.agg #[.int .i64 0, .int .u16 0, .string ⟨#[]⟩, .int .i64 0, .int .i64 0]), 5, 48) := by kernel_rfl
/-- Between the rounds of ref. -/
structure RfI (w wr : World) (L : List Dz) (v : Value) (j : Nat) : Prop where
  t : Touch [] w wr
  o : wr.ownsRow w.heap.size 85 5 v j (cellsD (L.take j))
theorem RfI.step {w wr w6 : World} {L : List Dz} {v v6 : Value} {j : Nat} (h : RfI w wr L v j) (hj : j < L.length) (o : w6.ownsRow w.heap.size 85 5 v6 (j + 1) (cellsD (L.take j) ++ L[j].cells)) (t : Touch v.ownBlock.toList wr w6) : RfI w w6 L v6 (j + 1) := by
  refine ⟨h.t.trans t (fun k hk => Or.inr (h.o.lt k (Option.mem_toList.1 hk)).1), ?_⟩
  rw [List.take_succ_eq_append_getElem hj, show cellsD (L.take j ++ [L[j]]) = cellsD (L.take j) ++ L[j].cells by unfold cellsD; rw [List.flatMap_append, List.flatMap_cons, List.flatMap_nil, List.append_nil]]
  exact o
def RfE (e : Ending) (w w' : World) (L : List Dz) : Prop := ∃ a c, e = .returned (.slice a L.length c) ∧ w'.ownsRow w.heap.size 85 5 (.slice a L.length c) L.length (cellsD L) ∧ Touch [] w w'
set_option maxHeartbeats 4000000 in
set_option maxRecDepth 20000 in
theorem ref_ (L : List Dz) (a : Option Addr) (c : Nat) (w : World) (hs : Sl w a L) (hl : L.length ≤ 2932031007317) : Calls Tryd.prog 9 #[.slice a L.length c] w fun e w' => RfE e w w' L := by
  have HS := hid hs
  have HL := hid hl
  have hle : (L.length : Int) ≤ 2932031007317 := by omega
  clear hs hl
  go_enter Tryd.func9, Tryd.ntmps9
  go_wp2
  go_loopw [3, 4] (fun v i wr => ∃ (j : Nat) (a' : Option Addr) (c' : Nat), v = .slice a' j c' ∧ i = .int .i64 j ∧ j ≤ L.length ∧ Hid (RfI w wr L (.slice a' j c') j)) (fun _ i _ => L.length - (intOf i).toNat)
  case atStart => exact ⟨0, _, _, rfl, rfl, Nat.zero_le _, hid ⟨(Touch.refl [] w).alloc _, World.ownsRow_made (e := 85) (size := 5) w #[] 0 (Nat.le_refl _) (by unfold maxLen; omega) rfl⟩⟩
  case round =>
    obtain ⟨j, a', c', rfl, rfl, hj, HI⟩ := hrel
    by_cases hlt : j < L.length
    · have hz : (j : Int) < (L.length : Int) := by omega
      obtain ⟨b, off, rfl, _⟩ := HS.out j hlt
      have HX : Hid (∀ w' : World, Touch [] w w' → w'.cell? ⟨b, off + j * 5, none⟩ = some (.int .i64 L[j].op) ∧ w'.cell? ⟨b, off + j * 5 + 1, none⟩ = some (.int .u16 L[j].sp) ∧ w'.cell? ⟨b, off + j * 5 + 2, none⟩ = some (.string L[j].nm) ∧ w'.cell? ⟨b, off + j * 5 + 3, none⟩ = some (.int .i64 L[j].n) ∧ w'.cell? ⟨b, off + j * 5 + 4, none⟩ = some (.int .i64 L[j].sl)) := hid (fun w' t => by
        obtain ⟨b', off', e, q⟩ := (HS.out.touch t) j hlt
        cases e
        exact q)
      have HST : Hid (∀ v6 w6, w6.ownsRow w.heap.size 85 5 v6 (j + 1) (cellsD (L.take j) ++ L[j].cells) → Touch (Value.slice a' j c').ownBlock.toList wr.drew w6 → RfI w w6 L v6 (j + 1)) := hid (fun v6 w6 o t => RfI.step ⟨HI.out.t.drew, HI.out.o⟩ hlt o t)
      have HJ := hid hlt
      unfold Dz.cells at HST
      generalize L[j].op = x0 at *
      generalize L[j].sp = x1 at *
      generalize L[j].nm = x2 at *
      generalize L[j].n = x3 at *
      generalize L[j].sl = x4 at *
      go_upto_region 5 with fail
      have S0 : Touch [] w wr.drew := HI.out.t.drew
      have O0 : Hid (wr.drew.ownsRow w.heap.size 85 5 (.slice a' j c') j (cellsD (L.take j))) := hid HI.out.o
      refine wp_region_H (S := fun w' => Touch [] w w') (by kernel_rfl) ?_
      generalize wr.drew = W0 at *
      have F0 : ∀ w' : World, Touch [] w w' → w'.cell? ⟨b, off + j * 5, none⟩ = some (.int .i64 x0) := fun w' t => (HX.out w' t).1
      have F1 : ∀ w' : World, Touch [] w w' → w'.cell? ⟨b, off + j * 5 + 1, none⟩ = some (.int .u16 x1) := fun w' t => (HX.out w' t).2.1
      have F2 : ∀ w' : World, Touch [] w w' → w'.cell? ⟨b, off + j * 5 + 2, none⟩ = some (.string x2) := fun w' t => (HX.out w' t).2.2.1
      have F3 : ∀ w' : World, Touch [] w w' → w'.cell? ⟨b, off + j * 5 + 3, none⟩ = some (.int .i64 x3) := fun w' t => (HX.out w' t).2.2.2.1
      have F4 : ∀ w' : World, Touch [] w w' → w'.cell? ⟨b, off + j * 5 + 4, none⟩ = some (.int .i64 x4) := fun w' t => (HX.out w' t).2.2.2.2
      clear HI hlt
      refine wpH_take (i := 0) (v := (.slice a' j c')) (some 12) rfl rfl (by kernel_rfl) (by kernel_rfl) (by kernel_rfl) (fun _ _ _ h => h) (Or.inl ⟨by rfl, fun w' hS => (by go_simp)⟩) S0 ?_
      try simp only [Go.Act.put, List.setIfInBounds_toArray, List.set_cons_zero, List.set_cons_succ]
      refine wpH_take (i := 1) (v := (.slice (some ⟨b, off, none⟩) L.length c)) (some 13) rfl rfl (by kernel_rfl) (by kernel_rfl) (by kernel_rfl) (fun _ _ _ h => h) (Or.inl ⟨by rfl, fun w' hS => (by go_simp)⟩) S0 ?_
      try simp only [Go.Act.put, List.setIfInBounds_toArray, List.set_cons_zero, List.set_cons_succ]
      refine wpH_take (i := 2) (v := (.int .i64 (j : Nat))) (some 14) rfl rfl (by kernel_rfl) (by kernel_rfl) (by kernel_rfl) (fun _ _ _ h => h) (Or.inl ⟨by rfl, fun w' hS => (by go_simp)⟩) S0 ?_
      try simp only [Go.Act.put, List.setIfInBounds_toArray, List.set_cons_zero, List.set_cons_succ]
      refine wpH_take (i := 3) (v := (.pointer (some ⟨b, off + j * 5, none⟩))) (some 15) rfl rfl (by kernel_rfl) (by kernel_rfl) (by kernel_rfl) (fun _ _ _ h => h) (Or.inl ⟨by rfl, fun w' hS => (by go_simp)⟩) S0 ?_
      try simp only [Go.Act.put, List.setIfInBounds_toArray, List.set_cons_zero, List.set_cons_succ]
      refine wpH_take (i := 4) (v := (.pointer (some ⟨b, off + j * 5, none⟩))) (some 16) rfl rfl (by kernel_rfl) (by kernel_rfl) (by kernel_rfl) (fun _ _ _ h => h) (Or.inl ⟨by rfl, fun w' hS => (by go_simp)⟩) S0 ?_
      try simp only [Go.Act.put, List.setIfInBounds_toArray, List.set_cons_zero, List.set_cons_succ]
      refine wpH_take (i := 5) (v := (.int .i64 x0)) (some 17) rfl rfl (by kernel_rfl) (by kernel_rfl) (by kernel_rfl) (fun _ _ _ h => h) (Or.inl ⟨by rfl, fun w' hS => (by have z0 := F0 _ hS; go_simp)⟩) S0 ?_
      try simp only [Go.Act.put, List.setIfInBounds_toArray, List.set_cons_zero, List.set_cons_succ]
      refine wpH_take (i := 6) (v := (.slice (some ⟨b, off, none⟩) L.length c)) (some 18) rfl rfl (by kernel_rfl) (by kernel_rfl) (by kernel_rfl) (fun _ _ _ h => h) (Or.inl ⟨by rfl, fun w' hS => (by go_simp)⟩) S0 ?_
      try simp only [Go.Act.put, List.setIfInBounds_toArray, List.set_cons_zero, List.set_cons_succ]
      refine wpH_take (i := 7) (v := (.int .i64 (j : Nat))) (some 19) rfl rfl (by kernel_rfl) (by kernel_rfl) (by kernel_rfl) (fun _ _ _ h => h) (Or.inl ⟨by rfl, fun w' hS => (by go_simp)⟩) S0 ?_
      try simp only [Go.Act.put, List.setIfInBounds_toArray, List.set_cons_zero, List.set_cons_succ]
      refine wpH_take (i := 8) (v := (.pointer (some ⟨b, off + j * 5, none⟩))) (some 20) rfl rfl (by kernel_rfl) (by kernel_rfl) (by kernel_rfl) (fun _ _ _ h => h) (Or.inl ⟨by rfl, fun w' hS => (by go_simp)⟩) S0 ?_
      try simp only [Go.Act.put, List.setIfInBounds_toArray, List.set_cons_zero, List.set_cons_succ]
      refine wpH_take (i := 9) (v := (.pointer (some ⟨b, off + j * 5 + 1, none⟩))) (some 21) rfl rfl (by kernel_rfl) (by kernel_rfl) (by kernel_rfl) (fun _ _ _ h => h) (Or.inl ⟨by rfl, fun w' hS => (by go_simp)⟩) S0 ?_
      try simp only [Go.Act.put, List.setIfInBounds_toArray, List.set_cons_zero, List.set_cons_succ]
      refine wpH_take (i := 10) (v := (.pointer (some ⟨b, off + j * 5 + 1, none⟩))) (some 22) rfl rfl (by kernel_rfl) (by kernel_rfl) (by kernel_rfl) (fun _ _ _ h => h) (Or.inl ⟨by rfl, fun w' hS => (by go_simp)⟩) S0 ?_
      try simp only [Go.Act.put, List.setIfInBounds_toArray, List.set_cons_zero, List.set_cons_succ]
      refine wpH_take (i := 11) (v := (.int .u16 x1)) (some 23) rfl rfl (by kernel_rfl) (by kernel_rfl) (by kernel_rfl) (fun _ _ _ h => h) (Or.inl ⟨by rfl, fun w' hS => (by have z0 := F1 _ hS; go_simp)⟩) S0 ?_
      try simp only [Go.Act.put, List.setIfInBounds_toArray, List.set_cons_zero, List.set_cons_succ]
      refine wpH_take (i := 12) (v := (.slice (some ⟨b, off, none⟩) L.length c)) (some 24) rfl rfl (by kernel_rfl) (by kernel_rfl) (by kernel_rfl) (fun _ _ _ h => h) (Or.inl ⟨by rfl, fun w' hS => (by go_simp)⟩) S0 ?_
      try simp only [Go.Act.put, List.setIfInBounds_toArray, List.set_cons_zero, List.set_cons_succ]
      refine wpH_take (i := 13) (v := (.int .i64 (j : Nat))) (some 25) rfl rfl (by kernel_rfl) (by kernel_rfl) (by kernel_rfl) (fun _ _ _ h => h) (Or.inl ⟨by rfl, fun w' hS => (by go_simp)⟩) S0 ?_
      try simp only [Go.Act.put, List.setIfInBounds_toArray, List.set_cons_zero, List.set_cons_succ]
      refine wpH_take (i := 14) (v := (.pointer (some ⟨b, off + j * 5, none⟩))) (some 26) rfl rfl (by kernel_rfl) (by kernel_rfl) (by kernel_rfl) (fun _ _ _ h => h) (Or.inl ⟨by rfl, fun w' hS => (by go_simp)⟩) S0 ?_
      try simp only [Go.Act.put, List.setIfInBounds_toArray, List.set_cons_zero, List.set_cons_succ]
      refine wpH_take (i := 15) (v := (.pointer (some ⟨b, off + j * 5 + 1, none⟩))) (some 27) rfl rfl (by kernel_rfl) (by kernel_rfl) (by kernel_rfl) (fun _ _ _ h => h) (Or.inl ⟨by rfl, fun w' hS => (by go_simp)⟩) S0 ?_
      try simp only [Go.Act.put, List.setIfInBounds_toArray, List.set_cons_zero, List.set_cons_succ]
      refine wpH_take (i := 16) (v := (.pointer (some ⟨b, off + j * 5 + 2, none⟩))) (some 28) rfl rfl (by kernel_rfl) (by kernel_rfl) (by kernel_rfl) (fun _ _ _ h => h) (Or.inl ⟨by rfl, fun w' hS => (by go_simp)⟩) S0 ?_
      try simp only [Go.Act.put, List.setIfInBounds_toArray, List.set_cons_zero, List.set_cons_succ]
      refine wpH_take (i := 17) (v := (.string x2)) (some 29) rfl rfl (by kernel_rfl) (by kernel_rfl) (by kernel_rfl) (fun _ _ _ h => h) (Or.inl ⟨by rfl, fun w' hS => (by have z0 := F2 _ hS; go_simp)⟩) S0 ?_
      try simp only [Go.Act.put, List.setIfInBounds_toArray, List.set_cons_zero, List.set_cons_succ]
      refine wpH_take (i := 18) (v := (.agg #[.int .u16 x1, .string x2])) (some 30) rfl rfl (by kernel_rfl) (by kernel_rfl) (by kernel_rfl) (fun _ _ _ h => h) (Or.inl ⟨by rfl, fun w' hS => (by go_simp)⟩) S0 ?_
      try simp only [Go.Act.put, List.setIfInBounds_toArray, List.set_cons_zero, List.set_cons_succ]
      refine wpH_take (i := 19) (v := (.slice (some ⟨b, off, none⟩) L.length c)) (some 31) rfl rfl (by kernel_rfl) (by kernel_rfl) (by kernel_rfl) (fun _ _ _ h => h) (Or.inl ⟨by rfl, fun w' hS => (by go_simp)⟩) S0 ?_
      try simp only [Go.Act.put, List.setIfInBounds_toArray, List.set_cons_zero, List.set_cons_succ]
      refine wpH_take (i := 20) (v := (.int .i64 (j : Nat))) (some 32) rfl rfl (by kernel_rfl) (by kernel_rfl) (by kernel_rfl) (fun _ _ _ h => h) (Or.inl ⟨by rfl, fun w' hS => (by go_simp)⟩) S0 ?_
      try simp only [Go.Act.put, List.setIfInBounds_toArray, List.set_cons_zero, List.set_cons_succ]
      refine wpH_take (i := 21) (v := (.pointer (some ⟨b, off + j * 5, none⟩))) (some 33) rfl rfl (by kernel_rfl) (by kernel_rfl) (by kernel_rfl) (fun _ _ _ h => h) (Or.inl ⟨by rfl, fun w' hS => (by go_simp)⟩) S0 ?_
      try simp only [Go.Act.put, List.setIfInBounds_toArray, List.set_cons_zero, List.set_cons_succ]
      refine wpH_take (i := 22) (v := (.pointer (some ⟨b, off + j * 5 + 3, none⟩))) (some 34) rfl rfl (by kernel_rfl) (by kernel_rfl) (by kernel_rfl) (fun _ _ _ h => h) (Or.inl ⟨by rfl, fun w' hS => (by go_simp)⟩) S0 ?_
      try simp only [Go.Act.put, List.setIfInBounds_toArray, List.set_cons_zero, List.set_cons_succ]
      refine wpH_take (i := 23) (v := (.int .i64 x3)) (some 35) rfl rfl (by kernel_rfl) (by kernel_rfl) (by kernel_rfl) (fun _ _ _ h => h) (Or.inl ⟨by rfl, fun w' hS => (by have z0 := F3 _ hS; go_simp)⟩) S0 ?_
      try simp only [Go.Act.put, List.setIfInBounds_toArray, List.set_cons_zero, List.set_cons_succ]
      refine wpH_take (i := 24) (v := (.slice (some ⟨b, off, none⟩) L.length c)) (some 36) rfl rfl (by kernel_rfl) (by kernel_rfl) (by kernel_rfl) (fun _ _ _ h => h) (Or.inl ⟨by rfl, fun w' hS => (by go_simp)⟩) S0 ?_
      try simp only [Go.Act.put, List.setIfInBounds_toArray, List.set_cons_zero, List.set_cons_succ]
      refine wpH_take (i := 25) (v := (.int .i64 (j : Nat))) (some 37) rfl rfl (by kernel_rfl) (by kernel_rfl) (by kernel_rfl) (fun _ _ _ h => h) (Or.inl ⟨by rfl, fun w' hS => (by go_simp)⟩) S0 ?_
      try simp only [Go.Act.put, List.setIfInBounds_toArray, List.set_cons_zero, List.set_cons_succ]
      refine wpH_take (i := 26) (v := (.pointer (some ⟨b, off + j * 5, none⟩))) (some 38) rfl rfl (by kernel_rfl) (by kernel_rfl) (by kernel_rfl) (fun _ _ _ h => h) (Or.inl ⟨by rfl, fun w' hS => (by go_simp)⟩) S0 ?_
      try simp only [Go.Act.put, List.setIfInBounds_toArray, List.set_cons_zero, List.set_cons_succ]
      refine wpH_take (i := 27) (v := (.pointer (some ⟨b, off + j * 5 + 4, none⟩))) (some 39) rfl rfl (by kernel_rfl) (by kernel_rfl) (by kernel_rfl) (fun _ _ _ h => h) (Or.inl ⟨by rfl, fun w' hS => (by go_simp)⟩) S0 ?_
      try simp only [Go.Act.put, List.setIfInBounds_toArray, List.set_cons_zero, List.set_cons_succ]
      refine wpH_take (i := 28) (v := (.int .i64 x4)) (some 40) rfl rfl (by kernel_rfl) (by kernel_rfl) (by kernel_rfl) (fun _ _ _ h => h) (Or.inl ⟨by rfl, fun w' hS => (by have z0 := F4 _ hS; go_simp)⟩) S0 ?_
      try simp only [Go.Act.put, List.setIfInBounds_toArray, List.set_cons_zero, List.set_cons_succ]
      refine wpH_take (i := 29) (v := (.agg #[.int .i64 x0, .int .u16 x1, .string x2, .int .i64 x3, .int .i64 x4])) (some 41) rfl rfl (by kernel_rfl) (by kernel_rfl) (by kernel_rfl) (fun _ _ _ h => h) (Or.inl ⟨by rfl, fun w' hS => (by go_simp)⟩) S0 ?_
      try simp only [Go.Act.put, List.setIfInBounds_toArray, List.set_cons_zero, List.set_cons_succ]
      refine wpH_call (i := 30) (o := { dst := some 42, op := Op.buildSlice 28 1 #[(0, Operand.tmp 41)], type := 28, pos := _, after := #[{ on := 29, ground := Ground.data }], guard := none }) (by kernel_rfl) rfl (fun K' hK => ?_)
      rw [if_pos (by rfl)]
      go_simp
      have S1 := S0.alloc (.cells #[.int .i64 x0, .int .u16 x1, .string x2, .int .i64 x3, .int .i64 x4] 85)
      refine hK.out _ _ S1 ?_
      clear hK
      try simp only [Go.Act.put, List.setIfInBounds_toArray, List.set_cons_zero, List.set_cons_succ]
      refine wpH_call (i := 31) (o := { dst := some 43, op := Op.call { callee := Callee.builtin Builtin.append, args := #[Operand.tmp 12, Operand.tmp 42], argTypes := #[28, 28] }, type := 28, pos := _, after := #[{ on := 0, ground := Ground.data }, { on := 30, ground := Ground.data }], guard := none }) (by kernel_rfl) rfl (fun K' hK => ?_)
      rw [if_pos (by rfl)]
      have O1 := own_touch O0.out ((Touch.refl [] W0).alloc (.cells #[.int .i64 x0, .int .u16 x1, .string x2, .int .i64 x3, .int .i64 x4] 85)) (by simp)
      refine wp_append_rs _ _ 28 85 rfl _ 5 48 infoR Tryd.underlying28 rfl (by decide) w.heap.size (Value.slice a' j c') j (cellsD (L.take j)) rfl O1 (.slice (some ⟨W0.heap.size, 0, none⟩) 1 1) 1 _ rfl (Rs.new W0 #[.int .i64 x0, .int .u16 x1, .string x2, .int .i64 x3, .int .i64 x4] 85 5 rfl) (by simp [Value.oneCell']) (by have := HL.out; have := HJ.out; unfold maxLen; omega) (by have := HL.out; have := HJ.out; omega) S1.size ?_
      intro v6 w6 o6 gr6 p6
      obtain ⟨a6, c6, e6⟩ := own_form o6
      subst e6
      have Q6 := hid (HST.out _ _ o6 (((Touch.refl (Value.slice a' j c').ownBlock.toList W0).alloc (.cells #[.int .i64 x0, .int .u16 x1, .string x2, .int .i64 x3, .int .i64 x4] 85)).grown gr6 (fun q hq => Or.inl (by simp [hq]))))
      have S6 := Q6.out.t
      clear o6 gr6 p6 O1
      refine hK.out _ _ S6 ?_
      clear hK
      try simp only [Go.Act.put, List.setIfInBounds_toArray, List.set_cons_zero, List.set_cons_succ]
      refine wpH_take (i := 32) (v := (.slice a6 (j + 1) c6)) (some 3) rfl rfl (by kernel_rfl) (by kernel_rfl) (by kernel_rfl) (fun _ _ _ h => h) (Or.inl ⟨by rfl, fun w' hS => (by go_simp)⟩) S6 ?_
      try simp only [Go.Act.put, List.setIfInBounds_toArray, List.set_cons_zero, List.set_cons_succ]
      refine wpAnyH_done (by kernel_rfl) ?_ _
      go_wp2_with fail
      go_roundw
      case rel => exact ⟨j + 1, a6, c6, rfl, by go_num, by have := HJ.out; omega, Q6⟩
      case measure => simp [intOf]; have := HJ.out; omega
    · have hz : ¬ (j : Int) < (L.length : Int) := by omega
      have e : j = L.length := by omega
      have HF : Hid (RfE (.returned (.slice a' j c')) w wr L) := hid (by
        subst e
        exact ⟨a', c', rfl, by have := HI.out.o; rwa [List.take_length] at this, HI.out.t⟩)
      clear e
      go_wp2
      go_ret
      exact HF.out
end Go.Proofs.YthakboiecdjgnaaDoor.Ci
