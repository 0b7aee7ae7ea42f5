/- The contracts of the program's reader: what the bytes begin with, a sum, the end; the text's length is a number of the language's, the reader stands within the text. -/
import Derived.Test.YtpefbmheblfbeaaGreatQc06
import Derived.Test.YtpefbmheblfbeaaGreatQc01
namespace Go.Proofs.YtpefbmheblfbeaaGreat.Sn
open Go.RowKit Go.Sort Go.Shelf Me
set_option linter.unusedVariables false
set_option linter.unusedSimpArgs false
def prefB (l m : List UInt8) : Bool := decide (l.take m.length = m)
theorem prefB_short {l m : List UInt8} (h : l.length < m.length) : prefB l m = false := by
  unfold prefB
  refine decide_eq_false (fun e => ?_)
  have := congrArg List.length e
  rw [List.length_take] at this
  omega
set_option maxHeartbeats 1000000 in
theorem hplite_ (w : World) (a p : ByteArray) (ha : a.size ≤ 9223372036854775807) : Calls Tryz.prog 129 #[.string a, .string p] w fun e w' => e = .returned (.bool (prefB a.data.toList p.data.toList)) ∧ w' = w := by
  have ea : a.data.toList.length = a.size := by simp
  have ep : p.data.toList.length = p.size := by simp
  by_cases h : p.size ≤ a.size
  · have hz : (p.size : Int) ≤ (a.size : Int) := by omega
    have z0 : (0 : Int) ≤ (p.size : Int) := by omega
    have sl : ∀ w, (Instr.slice 9 (.string a) none (some (.int .i64 (p.size : Int))) none).run Tryz.prog w = .ok (.string (a.extract 0 p.size)) w := fun w => by go_simp
    have e : (((a.extract 0 p.size).toList == p.toList) : Bool) = prefB a.data.toList p.data.toList := by
      unfold prefB
      rw [Bool.eq_iff_iff, beq_iff_eq, decide_eq_true_eq, ByteArray.toList_eq, ByteArray.toList_eq, extract_data, List.drop_zero, ep]
    generalize prefB a.data.toList p.data.toList = R at *
    clear ea ep ha
    go_enter Tryz.func129, Tryz.ntmps129
    go_wp2
    go_ret
    exact ⟨by rw [← e]; rfl, rfl⟩
  · have hz : ¬ (p.size : Int) ≤ (a.size : Int) := by omega
    rw [prefB_short (by omega)]
    clear ea ep ha
    go_enter Tryz.func129, Tryz.ntmps129
    go_wp2
    go_ret
    exact ⟨rfl, rfl⟩
theorem hp_ (w : World) (a p : ByteArray) (ha : a.size ≤ 9223372036854775807) : Calls Tryz.prog 93 #[.string a, .string p] w fun e w' => e = .returned (.bool (prefB a.data.toList p.data.toList)) ∧ Touch [] w w' := by
  have H := hid (hplite_ w a p ha)
  clear ha
  go_enter Tryz.func93, Tryz.ntmps93
  go_wp2_with (go_at_call 129; refine H.out.mono ?_; rintro e w1 ⟨rfl, rfl⟩)
  go_ret
  exact ⟨rfl, Touch.refl _ _⟩
def markR (s : ByteArray) (x : Rd) (m : List UInt8) : Rd := passS x (x.at_ + m.length) (prefB (s.data.toList.drop x.at_.toNat) m)
set_option maxHeartbeats 4000000 in
theorem mark_r {w : World} {r : Nat} {s : ByteArray} {x : Rd} (h : Rq w r s x) (hi : Rin s x) (hs : s.size ≤ 140737488351232) (m : ByteArray) (hm : m.size ≤ 100) : Calls Tryz.prog 44 #[PT r, .string m] w fun e w' => e = .returned (.tuple #[]) ∧ Rq w' r s (markR s x m.data.toList) ∧ Touch [r] w w' := by
  obtain ⟨k, hk⟩ : ∃ k : Nat, x.at_ = (k : Int) := ⟨x.at_.toNat, by have := hi.1; omega⟩
  have hks : k ≤ s.size := by have := hi.2; omega
  have em : (m.data.toList.length : Int) = (m.size : Int) := by simp
  have hes : (s.extract k s.size).data.toList = s.data.toList.drop k := by rw [extract_data, List.take_of_length_le (by simp)]
  have HH := hid (fun w => hp_ w (s.extract k s.size) m (by rw [ByteArray.size_extract]; omega))
  rw [hes] at HH
  have HP := hid (fun w' (t : Touch [] w w') => pass_ (h.keep0 t) ((k : Int) + (m.size : Int)) (prefB (s.data.toList.drop k) m.data.toList))
  have eR : markR s x m.data.toList = passS x ((k : Int) + (m.size : Int)) (prefB (s.data.toList.drop k) m.data.toList) := by unfold markR; rw [hk, em]; rfl
  rw [eR]
  have C0 : ∀ w', Touch [] w w' → w'.cell? ⟨r, 0, none⟩ = some (.string s) := fun w' t => cell_at (t.keep h (by simp)) rfl
  have C1 : ∀ w', Touch [] w w' → w'.cell? ⟨r, 1, none⟩ = some (.int .i64 (k : Int)) := fun w' t => by rw [← hk]; exact cell_at (t.keep h (by simp)) rfl
  have z0 : (0 : Int) ≤ (k : Int) := by omega
  have z1 : (k : Int) ≤ (s.size : Int) := by omega
  have sl : ∀ w, (Instr.slice 9 (.string s) (some (.int .i64 (k : Int))) none none).run Tryz.prog w = .ok (.string (s.extract k s.size)) w := fun w => by go_simp
  have wk : IntKind.i64.wrap ((k : Int) + (m.size : Int)) = (k : Int) + (m.size : Int) := by rw [IntKind.wrap_i64]; omega
  have zz := h.lt
  generalize passS x ((k : Int) + (m.size : Int)) (prefB (s.data.toList.drop k) m.data.toList) = S' at *
  generalize passB x (prefB (s.data.toList.drop k) m.data.toList) = B' at *
  generalize prefB (s.data.toList.drop k) m.data.toList = P' at *
  clear eR hes em hk hi h hs hm hks
  unfold PT at *
  go_enter Tryz.func44, Tryz.ntmps44
  have s0 : Touch [] w w.drew := (Touch.refl _ _).drew
  refine wp_region_H (S := fun _ => True) (by kernel_rfl) ?_
  generalize w.drew = Wd at *
  refine wpH_take (i := 0) (v := (.pointer (some ⟨r, 0, none⟩))) (some 4) rfl rfl (by kernel_rfl) (by kernel_rfl) (by kernel_rfl) (fun _ _ _ h => h) (Or.inl ⟨by rfl, fun w' hS => (by go_simp)⟩) trivial ?_
  try simp only [Go.Act.put, List.setIfInBounds_toArray, List.set_cons_zero, List.set_cons_succ]
  refine wpH_take (i := 1) (v := (.pointer (some ⟨r, 0, none⟩))) (some 5) rfl rfl (by kernel_rfl) (by kernel_rfl) (by kernel_rfl) (fun _ _ _ h => h) (Or.inl ⟨by rfl, fun w' hS => (by go_simp)⟩) trivial ?_
  try simp only [Go.Act.put, List.setIfInBounds_toArray, List.set_cons_zero, List.set_cons_succ]
  refine wpH_take (i := 2) (v := (.pointer (some ⟨r, 0, none⟩))) (some 6) rfl rfl (by kernel_rfl) (by kernel_rfl) (by kernel_rfl) (fun _ _ _ h => h) (Or.inl ⟨by rfl, fun w' hS => (by go_simp)⟩) trivial ?_
  try simp only [Go.Act.put, List.setIfInBounds_toArray, List.set_cons_zero, List.set_cons_succ]
  refine wpH_take (i := 3) (v := (.pointer (some ⟨r, 1, none⟩))) (some 7) rfl rfl (by kernel_rfl) (by kernel_rfl) (by kernel_rfl) (fun _ _ _ h => h) (Or.inl ⟨by rfl, fun w' hS => (by go_simp)⟩) trivial ?_
  try simp only [Go.Act.put, List.setIfInBounds_toArray, List.set_cons_zero, List.set_cons_succ]
  refine wpH_take (i := 5) (v := (.string m)) (some 9) rfl rfl (by kernel_rfl) (by kernel_rfl) (by kernel_rfl) (fun _ _ _ h => h) (Or.inl ⟨by rfl, fun w' hS => (by go_simp)⟩) trivial ?_
  try simp only [Go.Act.put, List.setIfInBounds_toArray, List.set_cons_zero, List.set_cons_succ]
  refine wpH_take (i := 6) (v := (.int .i64 (m.size : Int))) (some 10) rfl rfl (by kernel_rfl) (by kernel_rfl) (by kernel_rfl) (fun _ _ _ h => h) (Or.inl ⟨by rfl, fun w' hS => (by go_simp)⟩) trivial ?_
  try simp only [Go.Act.put, List.setIfInBounds_toArray, List.set_cons_zero, List.set_cons_succ]
  refine wpH_take (i := 8) (v := (.pointer (some ⟨r, 0, none⟩))) (some 12) rfl rfl (by kernel_rfl) (by kernel_rfl) (by kernel_rfl) (fun _ _ _ h => h) (Or.inl ⟨by rfl, fun w' hS => (by go_simp)⟩) trivial ?_
  try simp only [Go.Act.put, List.setIfInBounds_toArray, List.set_cons_zero, List.set_cons_succ]
  refine wpH_take (i := 9) (v := (.pointer (some ⟨r, 0, none⟩))) (some 13) rfl rfl (by kernel_rfl) (by kernel_rfl) (by kernel_rfl) (fun _ _ _ h => h) (Or.inl ⟨by rfl, fun w' hS => (by go_simp)⟩) trivial ?_
  try simp only [Go.Act.put, List.setIfInBounds_toArray, List.set_cons_zero, List.set_cons_succ]
  refine wpH_take (i := 10) (v := (.pointer (some ⟨r, 0, none⟩))) (some 14) rfl rfl (by kernel_rfl) (by kernel_rfl) (by kernel_rfl) (fun _ _ _ h => h) (Or.inl ⟨by rfl, fun w' hS => (by go_simp)⟩) trivial ?_
  try simp only [Go.Act.put, List.setIfInBounds_toArray, List.set_cons_zero, List.set_cons_succ]
  refine wpH_take (i := 12) (v := (.pointer (some ⟨r, 0, none⟩))) (some 16) rfl rfl (by kernel_rfl) (by kernel_rfl) (by kernel_rfl) (fun _ _ _ h => h) (Or.inl ⟨by rfl, fun w' hS => (by go_simp)⟩) trivial ?_
  try simp only [Go.Act.put, List.setIfInBounds_toArray, List.set_cons_zero, List.set_cons_succ]
  refine wpH_take (i := 13) (v := (.pointer (some ⟨r, 0, none⟩))) (some 17) rfl rfl (by kernel_rfl) (by kernel_rfl) (by kernel_rfl) (fun _ _ _ h => h) (Or.inl ⟨by rfl, fun w' hS => (by go_simp)⟩) trivial ?_
  try simp only [Go.Act.put, List.setIfInBounds_toArray, List.set_cons_zero, List.set_cons_succ]
  refine wpH_take (i := 14) (v := (.pointer (some ⟨r, 1, none⟩))) (some 18) rfl rfl (by kernel_rfl) (by kernel_rfl) (by kernel_rfl) (fun _ _ _ h => h) (Or.inl ⟨by rfl, fun w' hS => (by go_simp)⟩) trivial ?_
  try simp only [Go.Act.put, List.setIfInBounds_toArray, List.set_cons_zero, List.set_cons_succ]
  refine wpH_take (i := 17) (v := (.string m)) (some 21) rfl rfl (by kernel_rfl) (by kernel_rfl) (by kernel_rfl) (fun _ _ _ h => h) (Or.inl ⟨by rfl, fun w' hS => (by go_simp)⟩) trivial ?_
  try simp only [Go.Act.put, List.setIfInBounds_toArray, List.set_cons_zero, List.set_cons_succ]
  refine wpH_ready (rs := [4, 11, 15]) (by kernel_rfl) (by simp) ?_
  refine AllH.cons (o := { dst := some 8, op := Op.load 3 (Operand.tmp 7), type := 3, pos := _, after := #[{ on := 3, ground := Ground.data }], guard := none }) rfl (fun K' hK => ?_) ?_
  · rw [if_pos (by rfl)]
    have z1 := C1 _ s0
    go_simp
    clear z1
    refine hK.out _ _ trivial ?_
    clear hK
    try simp only [Go.Act.put, List.setIfInBounds_toArray, List.set_cons_zero, List.set_cons_succ]
    refine wpH_take (i := 7) (v := (.int .i64 ((k : Int) + (m.size : Int)))) (some 11) rfl rfl (by kernel_rfl) (by kernel_rfl) (by kernel_rfl) (fun _ _ _ h => h) (Or.inl ⟨by rfl, fun w' hS => (by go_simp)⟩) trivial ?_
    try simp only [Go.Act.put, List.setIfInBounds_toArray, List.set_cons_zero, List.set_cons_succ]
    refine wpH_ready (rs := [11, 15]) (by kernel_rfl) (by simp) ?_
    refine AllH.cons (o := { dst := some 15, op := Op.load 9 (Operand.tmp 14), type := 9, pos := _, after := #[{ on := 10, ground := Ground.data }], guard := none }) rfl (fun K' hK => ?_) ?_
    · rw [if_pos (by rfl)]
      have z2 := C0 _ s0
      go_simp
      clear z2
      refine hK.out _ _ trivial ?_
      clear hK
      try simp only [Go.Act.put, List.setIfInBounds_toArray, List.set_cons_zero, List.set_cons_succ]
      refine wpH_call (i := 15) (o := { dst := some 19, op := Op.load 3 (Operand.tmp 18), type := 3, pos := _, after := #[{ on := 14, ground := Ground.data }], guard := none }) (by kernel_rfl) rfl (fun K' hK => ?_)
      rw [if_pos (by rfl)]
      have z3 := C1 _ s0
      go_simp
      clear z3
      refine hK.out _ _ trivial ?_
      clear hK
      try simp only [Go.Act.put, List.setIfInBounds_toArray, List.set_cons_zero, List.set_cons_succ]
      refine wpH_take (i := 16) (v := (.string (s.extract k s.size))) (some 20) rfl rfl (by kernel_rfl) (by kernel_rfl) (by kernel_rfl) (fun _ _ _ h => h) (Or.inl ⟨by rfl, fun w' hS => (by go_simp)⟩) trivial ?_
      try simp only [Go.Act.put, List.setIfInBounds_toArray, List.set_cons_zero, List.set_cons_succ]
      refine wpH_call (i := 18) (o := { dst := some 22, op := Op.call { callee := Callee.value (Operand.func 93), args := #[Operand.tmp 20, Operand.tmp 21], argTypes := #[9, 9] }, type := 4, pos := _, after := #[{ on := 16, ground := Ground.data }, { on := 17, ground := Ground.data }], guard := none }) (by kernel_rfl) rfl (fun K' hK => ?_)
      rw [if_pos (by rfl)]
      go_simp
      refine (HH.out _).mono ?_
      rintro e v4 ⟨rfl, t4⟩
      have s4 : Touch [] w v4 := s0.trans' t4
      refine hK.out _ _ trivial ?_
      clear hK
      try simp only [Go.Act.put, List.setIfInBounds_toArray, List.set_cons_zero, List.set_cons_succ]
      refine wpH_call (i := 19) (o := { dst := some 23, op := Op.call { callee := Callee.value (Operand.func 92), args := #[Operand.tmp 4, Operand.tmp 11, Operand.tmp 22], argTypes := #[106, 3, 4] }, type := 4, pos := _, after := #[{ on := 0, ground := Ground.data }, { on := 7, ground := Ground.data }, { on := 18, ground := Ground.data }, { on := 18, ground := Ground.chain }], guard := none }) (by kernel_rfl) rfl (fun K' hK => ?_)
      rw [if_pos (by rfl)]
      go_simp
      refine (HP.out _ s4).mono ?_
      rintro e v5 ⟨rfl, q2, t2⟩
      have Q2 := hid (And.intro q2 (touch_r s4 t2))
      refine hK.out _ _ trivial ?_
      clear hK
      try simp only [Go.Act.put, List.setIfInBounds_toArray, List.set_cons_zero, List.set_cons_succ]
      refine wpAnyH_done (by kernel_rfl) ?_ _
      go_wp2_with fail
      go_end0
      exact ⟨rfl, Q2.out⟩
    refine AllH.cons (o := { dst := some 19, op := Op.load 3 (Operand.tmp 18), type := 3, pos := _, after := #[{ on := 14, ground := Ground.data }], guard := none }) rfl (fun K' hK => ?_) ?_
    · rw [if_pos (by rfl)]
      have z6 := C1 _ s0
      go_simp
      clear z6
      refine hK.out _ _ trivial ?_
      clear hK
      try simp only [Go.Act.put, List.setIfInBounds_toArray, List.set_cons_zero, List.set_cons_succ]
      refine wpH_call (i := 11) (o := { dst := some 15, op := Op.load 9 (Operand.tmp 14), type := 9, pos := _, after := #[{ on := 10, ground := Ground.data }], guard := none }) (by kernel_rfl) rfl (fun K' hK => ?_)
      rw [if_pos (by rfl)]
      have z7 := C0 _ s0
      go_simp
      clear z7
      refine hK.out _ _ trivial ?_
      clear hK
      try simp only [Go.Act.put, List.setIfInBounds_toArray, List.set_cons_zero, List.set_cons_succ]
      refine wpH_take (i := 16) (v := (.string (s.extract k s.size))) (some 20) rfl rfl (by kernel_rfl) (by kernel_rfl) (by kernel_rfl) (fun _ _ _ h => h) (Or.inl ⟨by rfl, fun w' hS => (by go_simp)⟩) trivial ?_
      try simp only [Go.Act.put, List.setIfInBounds_toArray, List.set_cons_zero, List.set_cons_succ]
      refine wpH_call (i := 18) (o := { dst := some 22, op := Op.call { callee := Callee.value (Operand.func 93), args := #[Operand.tmp 20, Operand.tmp 21], argTypes := #[9, 9] }, type := 4, pos := _, after := #[{ on := 16, ground := Ground.data }, { on := 17, ground := Ground.data }], guard := none }) (by kernel_rfl) rfl (fun K' hK => ?_)
      rw [if_pos (by rfl)]
      go_simp
      refine (HH.out _).mono ?_
      rintro e v8 ⟨rfl, t8⟩
      have s8 : Touch [] w v8 := s0.trans' t8
      refine hK.out _ _ trivial ?_
      clear hK
      try simp only [Go.Act.put, List.setIfInBounds_toArray, List.set_cons_zero, List.set_cons_succ]
      refine wpH_call (i := 19) (o := { dst := some 23, op := Op.call { callee := Callee.value (Operand.func 92), args := #[Operand.tmp 4, Operand.tmp 11, Operand.tmp 22], argTypes := #[106, 3, 4] }, type := 4, pos := _, after := #[{ on := 0, ground := Ground.data }, { on := 7, ground := Ground.data }, { on := 18, ground := Ground.data }, { on := 18, ground := Ground.chain }], guard := none }) (by kernel_rfl) rfl (fun K' hK => ?_)
      rw [if_pos (by rfl)]
      go_simp
      refine (HP.out _ s8).mono ?_
      rintro e v9 ⟨rfl, q2, t2⟩
      have Q2 := hid (And.intro q2 (touch_r s8 t2))
      refine hK.out _ _ trivial ?_
      clear hK
      try simp only [Go.Act.put, List.setIfInBounds_toArray, List.set_cons_zero, List.set_cons_succ]
      refine wpAnyH_done (by kernel_rfl) ?_ _
      go_wp2_with fail
      go_end0
      exact ⟨rfl, Q2.out⟩
    exact AllH.nil
  refine AllH.cons (o := { dst := some 15, op := Op.load 9 (Operand.tmp 14), type := 9, pos := _, after := #[{ on := 10, ground := Ground.data }], guard := none }) rfl (fun K' hK => ?_) ?_
  · rw [if_pos (by rfl)]
    have z10 := C0 _ s0
    go_simp
    clear z10
    refine hK.out _ _ trivial ?_
    clear hK
    try simp only [Go.Act.put, List.setIfInBounds_toArray, List.set_cons_zero, List.set_cons_succ]
    refine wpH_ready (rs := [4, 15]) (by kernel_rfl) (by simp) ?_
    refine AllH.cons (o := { dst := some 8, op := Op.load 3 (Operand.tmp 7), type := 3, pos := _, after := #[{ on := 3, ground := Ground.data }], guard := none }) rfl (fun K' hK => ?_) ?_
    · rw [if_pos (by rfl)]
      have z11 := C1 _ s0
      go_simp
      clear z11
      refine hK.out _ _ trivial ?_
      clear hK
      try simp only [Go.Act.put, List.setIfInBounds_toArray, List.set_cons_zero, List.set_cons_succ]
      refine wpH_take (i := 7) (v := (.int .i64 ((k : Int) + (m.size : Int)))) (some 11) rfl rfl (by kernel_rfl) (by kernel_rfl) (by kernel_rfl) (fun _ _ _ h => h) (Or.inl ⟨by rfl, fun w' hS => (by go_simp)⟩) trivial ?_
      try simp only [Go.Act.put, List.setIfInBounds_toArray, List.set_cons_zero, List.set_cons_succ]
      refine wpH_call (i := 15) (o := { dst := some 19, op := Op.load 3 (Operand.tmp 18), type := 3, pos := _, after := #[{ on := 14, ground := Ground.data }], guard := none }) (by kernel_rfl) rfl (fun K' hK => ?_)
      rw [if_pos (by rfl)]
      have z12 := C1 _ s0
      go_simp
      clear z12
      refine hK.out _ _ trivial ?_
      clear hK
      try simp only [Go.Act.put, List.setIfInBounds_toArray, List.set_cons_zero, List.set_cons_succ]
      refine wpH_take (i := 16) (v := (.string (s.extract k s.size))) (some 20) rfl rfl (by kernel_rfl) (by kernel_rfl) (by kernel_rfl) (fun _ _ _ h => h) (Or.inl ⟨by rfl, fun w' hS => (by go_simp)⟩) trivial ?_
      try simp only [Go.Act.put, List.setIfInBounds_toArray, List.set_cons_zero, List.set_cons_succ]
      refine wpH_call (i := 18) (o := { dst := some 22, op := Op.call { callee := Callee.value (Operand.func 93), args := #[Operand.tmp 20, Operand.tmp 21], argTypes := #[9, 9] }, type := 4, pos := _, after := #[{ on := 16, ground := Ground.data }, { on := 17, ground := Ground.data }], guard := none }) (by kernel_rfl) rfl (fun K' hK => ?_)
      rw [if_pos (by rfl)]
      go_simp
      refine (HH.out _).mono ?_
      rintro e v13 ⟨rfl, t13⟩
      have s13 : Touch [] w v13 := s0.trans' t13
      refine hK.out _ _ trivial ?_
      clear hK
      try simp only [Go.Act.put, List.setIfInBounds_toArray, List.set_cons_zero, List.set_cons_succ]
      refine wpH_call (i := 19) (o := { dst := some 23, op := Op.call { callee := Callee.value (Operand.func 92), args := #[Operand.tmp 4, Operand.tmp 11, Operand.tmp 22], argTypes := #[106, 3, 4] }, type := 4, pos := _, after := #[{ on := 0, ground := Ground.data }, { on := 7, ground := Ground.data }, { on := 18, ground := Ground.data }, { on := 18, ground := Ground.chain }], guard := none }) (by kernel_rfl) rfl (fun K' hK => ?_)
      rw [if_pos (by rfl)]
      go_simp
      refine (HP.out _ s13).mono ?_
      rintro e v14 ⟨rfl, q2, t2⟩
      have Q2 := hid (And.intro q2 (touch_r s13 t2))
      refine hK.out _ _ trivial ?_
      clear hK
      try simp only [Go.Act.put, List.setIfInBounds_toArray, List.set_cons_zero, List.set_cons_succ]
      refine wpAnyH_done (by kernel_rfl) ?_ _
      go_wp2_with fail
      go_end0
      exact ⟨rfl, Q2.out⟩
    refine AllH.cons (o := { dst := some 19, op := Op.load 3 (Operand.tmp 18), type := 3, pos := _, after := #[{ on := 14, ground := Ground.data }], guard := none }) rfl (fun K' hK => ?_) ?_
    · rw [if_pos (by rfl)]
      have z15 := C1 _ s0
      go_simp
      clear z15
      refine hK.out _ _ trivial ?_
      clear hK
      try simp only [Go.Act.put, List.setIfInBounds_toArray, List.set_cons_zero, List.set_cons_succ]
      refine wpH_take (i := 16) (v := (.string (s.extract k s.size))) (some 20) rfl rfl (by kernel_rfl) (by kernel_rfl) (by kernel_rfl) (fun _ _ _ h => h) (Or.inl ⟨by rfl, fun w' hS => (by go_simp)⟩) trivial ?_
      try simp only [Go.Act.put, List.setIfInBounds_toArray, List.set_cons_zero, List.set_cons_succ]
      refine wpH_ready (rs := [4, 18]) (by kernel_rfl) (by simp) ?_
      refine AllH.cons (o := { dst := some 8, op := Op.load 3 (Operand.tmp 7), type := 3, pos := _, after := #[{ on := 3, ground := Ground.data }], guard := none }) rfl (fun K' hK => ?_) ?_
      · rw [if_pos (by rfl)]
        have z16 := C1 _ s0
        go_simp
        clear z16
        refine hK.out _ _ trivial ?_
        clear hK
        try simp only [Go.Act.put, List.setIfInBounds_toArray, List.set_cons_zero, List.set_cons_succ]
        refine wpH_take (i := 7) (v := (.int .i64 ((k : Int) + (m.size : Int)))) (some 11) rfl rfl (by kernel_rfl) (by kernel_rfl) (by kernel_rfl) (fun _ _ _ h => h) (Or.inl ⟨by rfl, fun w' hS => (by go_simp)⟩) trivial ?_
        try simp only [Go.Act.put, List.setIfInBounds_toArray, List.set_cons_zero, List.set_cons_succ]
        refine wpH_call (i := 18) (o := { dst := some 22, op := Op.call { callee := Callee.value (Operand.func 93), args := #[Operand.tmp 20, Operand.tmp 21], argTypes := #[9, 9] }, type := 4, pos := _, after := #[{ on := 16, ground := Ground.data }, { on := 17, ground := Ground.data }], guard := none }) (by kernel_rfl) rfl (fun K' hK => ?_)
        rw [if_pos (by rfl)]
        go_simp
        refine (HH.out _).mono ?_
        rintro e v17 ⟨rfl, t17⟩
        have s17 : Touch [] w v17 := s0.trans' t17
        refine hK.out _ _ trivial ?_
        clear hK
        try simp only [Go.Act.put, List.setIfInBounds_toArray, List.set_cons_zero, List.set_cons_succ]
        refine wpH_call (i := 19) (o := { dst := some 23, op := Op.call { callee := Callee.value (Operand.func 92), args := #[Operand.tmp 4, Operand.tmp 11, Operand.tmp 22], argTypes := #[106, 3, 4] }, type := 4, pos := _, after := #[{ on := 0, ground := Ground.data }, { on := 7, ground := Ground.data }, { on := 18, ground := Ground.data }, { on := 18, ground := Ground.chain }], guard := none }) (by kernel_rfl) rfl (fun K' hK => ?_)
        rw [if_pos (by rfl)]
        go_simp
        refine (HP.out _ s17).mono ?_
        rintro e v18 ⟨rfl, q2, t2⟩
        have Q2 := hid (And.intro q2 (touch_r s17 t2))
        refine hK.out _ _ trivial ?_
        clear hK
        try simp only [Go.Act.put, List.setIfInBounds_toArray, List.set_cons_zero, List.set_cons_succ]
        refine wpAnyH_done (by kernel_rfl) ?_ _
        go_wp2_with fail
        go_end0
        exact ⟨rfl, Q2.out⟩
      refine AllH.cons (o := { dst := some 22, op := Op.call { callee := Callee.value (Operand.func 93), args := #[Operand.tmp 20, Operand.tmp 21], argTypes := #[9, 9] }, type := 4, pos := _, after := #[{ on := 16, ground := Ground.data }, { on := 17, ground := Ground.data }], guard := none }) rfl (fun K' hK => ?_) ?_
      · rw [if_pos (by rfl)]
        go_simp
        refine (HH.out _).mono ?_
        rintro e v19 ⟨rfl, t19⟩
        have s19 : Touch [] w v19 := s0.trans' t19
        refine hK.out _ _ trivial ?_
        clear hK
        try simp only [Go.Act.put, List.setIfInBounds_toArray, List.set_cons_zero, List.set_cons_succ]
        refine wpH_call (i := 4) (o := { dst := some 8, op := Op.load 3 (Operand.tmp 7), type := 3, pos := _, after := #[{ on := 3, ground := Ground.data }], guard := none }) (by kernel_rfl) rfl (fun K' hK => ?_)
        rw [if_pos (by rfl)]
        have z20 := C1 _ s19
        go_simp
        clear z20
        refine hK.out _ _ trivial ?_
        clear hK
        try simp only [Go.Act.put, List.setIfInBounds_toArray, List.set_cons_zero, List.set_cons_succ]
        refine wpH_take (i := 7) (v := (.int .i64 ((k : Int) + (m.size : Int)))) (some 11) rfl rfl (by kernel_rfl) (by kernel_rfl) (by kernel_rfl) (fun _ _ _ h => h) (Or.inl ⟨by rfl, fun w' hS => (by go_simp)⟩) trivial ?_
        try simp only [Go.Act.put, List.setIfInBounds_toArray, List.set_cons_zero, List.set_cons_succ]
        refine wpH_call (i := 19) (o := { dst := some 23, op := Op.call { callee := Callee.value (Operand.func 92), args := #[Operand.tmp 4, Operand.tmp 11, Operand.tmp 22], argTypes := #[106, 3, 4] }, type := 4, pos := _, after := #[{ on := 0, ground := Ground.data }, { on := 7, ground := Ground.data }, { on := 18, ground := Ground.data }, { on := 18, ground := Ground.chain }], guard := none }) (by kernel_rfl) rfl (fun K' hK => ?_)
        rw [if_pos (by rfl)]
        go_simp
        refine (HP.out _ s19).mono ?_
        rintro e v21 ⟨rfl, q2, t2⟩
        have Q2 := hid (And.intro q2 (touch_r s19 t2))
        refine hK.out _ _ trivial ?_
        clear hK
        try simp only [Go.Act.put, List.setIfInBounds_toArray, List.set_cons_zero, List.set_cons_succ]
        refine wpAnyH_done (by kernel_rfl) ?_ _
        go_wp2_with fail
        go_end0
        exact ⟨rfl, Q2.out⟩
      exact AllH.nil
    exact AllH.nil
  refine AllH.cons (o := { dst := some 19, op := Op.load 3 (Operand.tmp 18), type := 3, pos := _, after := #[{ on := 14, ground := Ground.data }], guard := none }) rfl (fun K' hK => ?_) ?_
  · rw [if_pos (by rfl)]
    have z22 := C1 _ s0
    go_simp
    clear z22
    refine hK.out _ _ trivial ?_
    clear hK
    try simp only [Go.Act.put, List.setIfInBounds_toArray, List.set_cons_zero, List.set_cons_succ]
    refine wpH_ready (rs := [4, 11]) (by kernel_rfl) (by simp) ?_
    refine AllH.cons (o := { dst := some 8, op := Op.load 3 (Operand.tmp 7), type := 3, pos := _, after := #[{ on := 3, ground := Ground.data }], guard := none }) rfl (fun K' hK => ?_) ?_
    · rw [if_pos (by rfl)]
      have z23 := C1 _ s0
      go_simp
      clear z23
      refine hK.out _ _ trivial ?_
      clear hK
      try simp only [Go.Act.put, List.setIfInBounds_toArray, List.set_cons_zero, List.set_cons_succ]
      refine wpH_take (i := 7) (v := (.int .i64 ((k : Int) + (m.size : Int)))) (some 11) rfl rfl (by kernel_rfl) (by kernel_rfl) (by kernel_rfl) (fun _ _ _ h => h) (Or.inl ⟨by rfl, fun w' hS => (by go_simp)⟩) trivial ?_
      try simp only [Go.Act.put, List.setIfInBounds_toArray, List.set_cons_zero, List.set_cons_succ]
      refine wpH_call (i := 11) (o := { dst := some 15, op := Op.load 9 (Operand.tmp 14), type := 9, pos := _, after := #[{ on := 10, ground := Ground.data }], guard := none }) (by kernel_rfl) rfl (fun K' hK => ?_)
      rw [if_pos (by rfl)]
      have z24 := C0 _ s0
      go_simp
      clear z24
      refine hK.out _ _ trivial ?_
      clear hK
      try simp only [Go.Act.put, List.setIfInBounds_toArray, List.set_cons_zero, List.set_cons_succ]
      refine wpH_take (i := 16) (v := (.string (s.extract k s.size))) (some 20) rfl rfl (by kernel_rfl) (by kernel_rfl) (by kernel_rfl) (fun _ _ _ h => h) (Or.inl ⟨by rfl, fun w' hS => (by go_simp)⟩) trivial ?_
      try simp only [Go.Act.put, List.setIfInBounds_toArray, List.set_cons_zero, List.set_cons_succ]
      refine wpH_call (i := 18) (o := { dst := some 22, op := Op.call { callee := Callee.value (Operand.func 93), args := #[Operand.tmp 20, Operand.tmp 21], argTypes := #[9, 9] }, type := 4, pos := _, after := #[{ on := 16, ground := Ground.data }, { on := 17, ground := Ground.data }], guard := none }) (by kernel_rfl) rfl (fun K' hK => ?_)
      rw [if_pos (by rfl)]
      go_simp
      refine (HH.out _).mono ?_
      rintro e v25 ⟨rfl, t25⟩
      have s25 : Touch [] w v25 := s0.trans' t25
      refine hK.out _ _ trivial ?_
      clear hK
      try simp only [Go.Act.put, List.setIfInBounds_toArray, List.set_cons_zero, List.set_cons_succ]
      refine wpH_call (i := 19) (o := { dst := some 23, op := Op.call { callee := Callee.value (Operand.func 92), args := #[Operand.tmp 4, Operand.tmp 11, Operand.tmp 22], argTypes := #[106, 3, 4] }, type := 4, pos := _, after := #[{ on := 0, ground := Ground.data }, { on := 7, ground := Ground.data }, { on := 18, ground := Ground.data }, { on := 18, ground := Ground.chain }], guard := none }) (by kernel_rfl) rfl (fun K' hK => ?_)
      rw [if_pos (by rfl)]
      go_simp
      refine (HP.out _ s25).mono ?_
      rintro e v26 ⟨rfl, q2, t2⟩
      have Q2 := hid (And.intro q2 (touch_r s25 t2))
      refine hK.out _ _ trivial ?_
      clear hK
      try simp only [Go.Act.put, List.setIfInBounds_toArray, List.set_cons_zero, List.set_cons_succ]
      refine wpAnyH_done (by kernel_rfl) ?_ _
      go_wp2_with fail
      go_end0
      exact ⟨rfl, Q2.out⟩
    refine AllH.cons (o := { dst := some 15, op := Op.load 9 (Operand.tmp 14), type := 9, pos := _, after := #[{ on := 10, ground := Ground.data }], guard := none }) rfl (fun K' hK => ?_) ?_
    · rw [if_pos (by rfl)]
      have z27 := C0 _ s0
      go_simp
      clear z27
      refine hK.out _ _ trivial ?_
      clear hK
      try simp only [Go.Act.put, List.setIfInBounds_toArray, List.set_cons_zero, List.set_cons_succ]
      refine wpH_take (i := 16) (v := (.string (s.extract k s.size))) (some 20) rfl rfl (by kernel_rfl) (by kernel_rfl) (by kernel_rfl) (fun _ _ _ h => h) (Or.inl ⟨by rfl, fun w' hS => (by go_simp)⟩) trivial ?_
      try simp only [Go.Act.put, List.setIfInBounds_toArray, List.set_cons_zero, List.set_cons_succ]
      refine wpH_ready (rs := [4, 18]) (by kernel_rfl) (by simp) ?_
      refine AllH.cons (o := { dst := some 8, op := Op.load 3 (Operand.tmp 7), type := 3, pos := _, after := #[{ on := 3, ground := Ground.data }], guard := none }) rfl (fun K' hK => ?_) ?_
      · rw [if_pos (by rfl)]
        have z28 := C1 _ s0
        go_simp
        clear z28
        refine hK.out _ _ trivial ?_
        clear hK
        try simp only [Go.Act.put, List.setIfInBounds_toArray, List.set_cons_zero, List.set_cons_succ]
        refine wpH_take (i := 7) (v := (.int .i64 ((k : Int) + (m.size : Int)))) (some 11) rfl rfl (by kernel_rfl) (by kernel_rfl) (by kernel_rfl) (fun _ _ _ h => h) (Or.inl ⟨by rfl, fun w' hS => (by go_simp)⟩) trivial ?_
        try simp only [Go.Act.put, List.setIfInBounds_toArray, List.set_cons_zero, List.set_cons_succ]
        refine wpH_call (i := 18) (o := { dst := some 22, op := Op.call { callee := Callee.value (Operand.func 93), args := #[Operand.tmp 20, Operand.tmp 21], argTypes := #[9, 9] }, type := 4, pos := _, after := #[{ on := 16, ground := Ground.data }, { on := 17, ground := Ground.data }], guard := none }) (by kernel_rfl) rfl (fun K' hK => ?_)
        rw [if_pos (by rfl)]
        go_simp
        refine (HH.out _).mono ?_
        rintro e v29 ⟨rfl, t29⟩
        have s29 : Touch [] w v29 := s0.trans' t29
        refine hK.out _ _ trivial ?_
        clear hK
        try simp only [Go.Act.put, List.setIfInBounds_toArray, List.set_cons_zero, List.set_cons_succ]
        refine wpH_call (i := 19) (o := { dst := some 23, op := Op.call { callee := Callee.value (Operand.func 92), args := #[Operand.tmp 4, Operand.tmp 11, Operand.tmp 22], argTypes := #[106, 3, 4] }, type := 4, pos := _, after := #[{ on := 0, ground := Ground.data }, { on := 7, ground := Ground.data }, { on := 18, ground := Ground.data }, { on := 18, ground := Ground.chain }], guard := none }) (by kernel_rfl) rfl (fun K' hK => ?_)
        rw [if_pos (by rfl)]
        go_simp
        refine (HP.out _ s29).mono ?_
        rintro e v30 ⟨rfl, q2, t2⟩
        have Q2 := hid (And.intro q2 (touch_r s29 t2))
        refine hK.out _ _ trivial ?_
        clear hK
        try simp only [Go.Act.put, List.setIfInBounds_toArray, List.set_cons_zero, List.set_cons_succ]
        refine wpAnyH_done (by kernel_rfl) ?_ _
        go_wp2_with fail
        go_end0
        exact ⟨rfl, Q2.out⟩
      refine AllH.cons (o := { dst := some 22, op := Op.call { callee := Callee.value (Operand.func 93), args := #[Operand.tmp 20, Operand.tmp 21], argTypes := #[9, 9] }, type := 4, pos := _, after := #[{ on := 16, ground := Ground.data }, { on := 17, ground := Ground.data }], guard := none }) rfl (fun K' hK => ?_) ?_
      · rw [if_pos (by rfl)]
        go_simp
        refine (HH.out _).mono ?_
        rintro e v31 ⟨rfl, t31⟩
        have s31 : Touch [] w v31 := s0.trans' t31
        refine hK.out _ _ trivial ?_
        clear hK
        try simp only [Go.Act.put, List.setIfInBounds_toArray, List.set_cons_zero, List.set_cons_succ]
        refine wpH_call (i := 4) (o := { dst := some 8, op := Op.load 3 (Operand.tmp 7), type := 3, pos := _, after := #[{ on := 3, ground := Ground.data }], guard := none }) (by kernel_rfl) rfl (fun K' hK => ?_)
        rw [if_pos (by rfl)]
        have z32 := C1 _ s31
        go_simp
        clear z32
        refine hK.out _ _ trivial ?_
        clear hK
        try simp only [Go.Act.put, List.setIfInBounds_toArray, List.set_cons_zero, List.set_cons_succ]
        refine wpH_take (i := 7) (v := (.int .i64 ((k : Int) + (m.size : Int)))) (some 11) rfl rfl (by kernel_rfl) (by kernel_rfl) (by kernel_rfl) (fun _ _ _ h => h) (Or.inl ⟨by rfl, fun w' hS => (by go_simp)⟩) trivial ?_
        try simp only [Go.Act.put, List.setIfInBounds_toArray, List.set_cons_zero, List.set_cons_succ]
        refine wpH_call (i := 19) (o := { dst := some 23, op := Op.call { callee := Callee.value (Operand.func 92), args := #[Operand.tmp 4, Operand.tmp 11, Operand.tmp 22], argTypes := #[106, 3, 4] }, type := 4, pos := _, after := #[{ on := 0, ground := Ground.data }, { on := 7, ground := Ground.data }, { on := 18, ground := Ground.data }, { on := 18, ground := Ground.chain }], guard := none }) (by kernel_rfl) rfl (fun K' hK => ?_)
        rw [if_pos (by rfl)]
        go_simp
        refine (HP.out _ s31).mono ?_
        rintro e v33 ⟨rfl, q2, t2⟩
        have Q2 := hid (And.intro q2 (touch_r s31 t2))
        refine hK.out _ _ trivial ?_
        clear hK
        try simp only [Go.Act.put, List.setIfInBounds_toArray, List.set_cons_zero, List.set_cons_succ]
        refine wpAnyH_done (by kernel_rfl) ?_ _
        go_wp2_with fail
        go_end0
        exact ⟨rfl, Q2.out⟩
      exact AllH.nil
    exact AllH.nil
  exact AllH.nil
def sumR (s : ByteArray) (x : Rd) : Rd × Nat := (passS x (x.at_ + 8) (decide (8 ≤ (s.size : Int) - x.at_)), if passB x (decide (8 ≤ (s.size : Int) - x.at_)) then val8 (s.data.toList.drop x.at_.toNat) else 0)
set_option maxHeartbeats 4000000 in
theorem sum_r {w : World} {r : Nat} {s : ByteArray} {x : Rd} (h : Rq w r s x) (hi : Rin s x) (hs : s.size ≤ 140737488351232) : Calls Tryz.prog 65 #[PT r] w fun e w' => e = .returned (.int .u64 ((sumR s x).2 : Nat)) ∧ Rq w' r s (sumR s x).1 ∧ Touch [r] w w' := by
  obtain ⟨k, hk⟩ : ∃ k : Nat, x.at_ = (k : Int) := ⟨x.at_.toNat, by have := hi.1; omega⟩
  have hks : k ≤ s.size := by have := hi.2; omega
  have hes : (s.extract k s.size).data.toList = s.data.toList.drop k := by rw [extract_data, List.take_of_length_le (by simp)]
  have HP := hid (pass_ h ((k : Int) + 8) (decide (8 ≤ (s.size : Int) - (k : Int))))
  have HB : Hid (passB x (decide (8 ≤ (s.size : Int) - (k : Int))) = true → 8 ≤ s.size - k) := hid (fun hb => by
    unfold passB at hb
    split at hb
    · cases hb
    · have := of_decide_eq_true hb; omega)
  have HS := hid (fun (h8 : 8 ≤ s.size - k) w => takeSum_ w (s.extract k s.size) (by rw [ByteArray.size_extract]; omega))
  rw [hes] at HS
  unfold sumR
  rw [hk]
  have ek : ((k : Int)).toNat = k := by omega
  rw [ek]
  have c0 := cell_of (n := 0) h rfl
  have c1 := cell_of (n := 1) h rfl
  rw [hk] at c1
  have z0 : (0 : Int) ≤ (k : Int) := by omega
  have z1 : (k : Int) ≤ (s.size : Int) := by omega
  have sl : ∀ w, (Instr.slice 9 (.string s) (some (.int .i64 (k : Int))) none none).run Tryz.prog w = .ok (.string (s.extract k s.size)) w := fun w => by go_simp
  have wk : IntKind.i64.wrap ((k : Int) + 8) = (k : Int) + 8 := by rw [IntKind.wrap_i64]; omega
  have wd : IntKind.i64.wrap ((s.size : Int) - (k : Int)) = (s.size : Int) - (k : Int) := by rw [IntKind.wrap_i64]; omega
  generalize val8 (s.data.toList.drop k) = vv at *
  generalize passS x ((k : Int) + 8) (decide (8 ≤ (s.size : Int) - (k : Int))) = S' at *
  generalize passB x (decide (8 ≤ (s.size : Int) - (k : Int))) = B at *
  generalize hD : decide (8 ≤ (s.size : Int) - (k : Int)) = D at *
  have HQ : Hid (∀ w', Rq w' r s S' → w'.cell? ⟨r, 0, none⟩ = some (.string s)) := hid (fun w' q => cell_of (n := 0) q rfl)
  clear hes hk hi h hs hks ek
  unfold PT at *
  cases B with
  | false =>
    clear HB HS
    go_enter Tryz.func65, Tryz.ntmps65
    go_wp2_with (go_at_call 92; refine HP.out.mono ?_; rintro e w2 ⟨rfl, q2, t2⟩)
    go_ret
    exact ⟨rfl, q2, t2⟩
  | true =>
    have HS2 := hid (HS.out (HB.out rfl))
    clear HB HS
    go_enter Tryz.func65, Tryz.ntmps65
    go_wp2_with (first
      | (go_at_call 92; refine HP.out.mono ?_; rintro e w2 ⟨rfl, q2, t2⟩; have d0 := HQ.out _ q2)
      | (go_at_call 78; refine (HS2.out _).mono ?_; rintro e w3 ⟨rfl, rfl⟩))
    go_ret
    exact ⟨rfl, q2, t2⟩
end Go.Proofs.YtpefbmheblfbeaaGreat.Sn
/- The contracts of the program's reader: a configuration, and whether anything is kept with a kind; the text's length is a number of the language's, the reader stands within the text. -/
namespace Go.Proofs.YtpefbmheblfbeaaGreat.Sn
open Go.RowKit Go.Sort Go.Shelf Me
set_option linter.unusedVariables false
set_option linter.unusedSimpArgs false
theorem keeps_ (w : World) (c : Cf) (k : Nat) : Calls Tryz.prog 145 #[cv c, .int .i64 k] w fun e w' => e = .returned (.bool (if k = 0 then decide (0 < c.t) else if k = 1 ∨ k = 2 then decide (0 < c.n) else false)) ∧ Touch [] w w' := by
  unfold cv
  by_cases h0 : k = 0
  · subst h0
    rw [if_pos rfl]
    go_enter Tryz.func145, Tryz.ntmps145
    go_wp2
    go_ret
    exact ⟨rfl, (Touch.refl _ _).alloc _⟩
  · rw [if_neg h0]
    have z0 : ¬ (k : Int) = 0 := by omega
    have y0 : ((k : Int) == 0) = false := by simpa using z0
    by_cases h1 : k = 1
    · subst h1
      rw [if_pos (Or.inl rfl)]
      clear h0 z0 y0
      go_enter Tryz.func145, Tryz.ntmps145
      go_wp2
      go_ret
      exact ⟨rfl, (Touch.refl _ _).alloc _⟩
    · have y1 : ((k : Int) == 1) = false := by simp; omega
      by_cases h2 : k = 2
      · subst h2
        rw [if_pos (Or.inr rfl)]
        clear h0 z0 y0 h1 y1
        go_enter Tryz.func145, Tryz.ntmps145
        go_wp2
        go_ret
        exact ⟨rfl, (Touch.refl _ _).alloc _⟩
      · have y2 : ((k : Int) == 2) = false := by simp; omega
        rw [if_neg (by omega)]
        have z1 : ¬ (k : Int) = 1 := by omega
        have z2 : ¬ (k : Int) = 2 := by omega
        clear h0 h1 h2
        go_enter Tryz.func145, Tryz.ntmps145
        go_wp2
        go_ret
        exact ⟨rfl, (Touch.refl _ _).alloc _⟩
theorem boxT {w w' : World} {r g : Nat} {o : Obj} (t : Touch [r] w w') (h : w.heap[g]? = some o) (hn : g ≠ r) : w'.heap[g]? = some o := t.keep h (by simpa using hn)
end Go.Proofs.YtpefbmheblfbeaaGreat.Sn
/- The contract of the program's reader for a kind; the text's length is a number of the language's, the reader stands within the text. -/
namespace Go.Proofs.YtpefbmheblfbeaaGreat.Sn
open Go.RowKit Go.Sort Go.Shelf Me
set_option linter.unusedVariables false
set_option linter.unusedSimpArgs false
def keepB (c : Cf) (k : Nat) : Bool := if k = 0 then decide (0 < c.t) else if k = 1 ∨ k = 2 then decide (0 < c.n) else false
def kindR (s : ByteArray) (x : Rd) (c : Cf) : Rd × Int :=
  match s.data.toList[x.at_.toNat]? with
  | some b => (passS x (x.at_ + 1) (keepB c b.toNat), if passB x (keepB c b.toNat) then (b.toNat : Int) else 0)
  | none => (passS x (x.at_ + 1) false, 0)
set_option maxRecDepth 100000 in
set_option maxHeartbeats 2000000 in
theorem kind_r {w : World} {r : Nat} {s : ByteArray} {x : Rd} (h : Rq w r s x) (hi : Rin s x) (hs : s.size ≤ 140737488351232) (c : Cf) : Calls Tryz.prog 131 #[PT r, cv c] w fun e w' => e = .returned (.int .i64 (kindR s x c).2) ∧ Rq w' r s (kindR s x c).1 ∧ Touch [r] w w' := by
  obtain ⟨k, hk⟩ : ∃ k : Nat, x.at_ = (k : Int) := ⟨x.at_.toNat, by have := hi.1; omega⟩
  have ek : x.at_.toNat = k := by omega
  obtain ⟨V, hV⟩ : ∃ V, V = w.alloc (.cells #[.int .i64 c.t, .int .i64 c.n, .int .i64 c.s, .int .i64 c.e, .int .i64 c.f, .int .i64 c.b, .int .i64 c.d] 23) := ⟨_, rfl⟩
  have TV : Touch [] w V := by rw [hV]; exact (Touch.refl _ _).alloc _
  have hb : V.heap[w.heap.size]? = some (.cells #[.int .i64 c.t, .int .i64 c.n, .int .i64 c.s, .int .i64 c.e, .int .i64 c.f, .int .i64 c.b, .int .i64 c.d] 23 (0, 0)) := by rw [hV]; exact heap_alloc_new w _
  have q0 := h.keep0 TV
  have FIN : Hid (∀ w', Touch [r] V w' → Touch [r] w w') := hid (fun w' t => touch_r TV t)
  have C0 : ∀ w', Touch [] V w' → w'.cell? ⟨r, 0, none⟩ = some (.string s) := fun w' t => cell_at (t.keep q0 (by simp)) rfl
  have c1 := cell_of (n := 1) q0 rfl
  rw [hk] at c1
  have X7 : ∀ w', Touch [] V w' → w'.cell? ⟨w.heap.size, 0, none⟩ = some (.int .i64 c.t) ∧ w'.cell? ⟨w.heap.size, 1, none⟩ = some (.int .i64 c.n) ∧ w'.cell? ⟨w.heap.size, 2, none⟩ = some (.int .i64 c.s) ∧ w'.cell? ⟨w.heap.size, 3, none⟩ = some (.int .i64 c.e) ∧ w'.cell? ⟨w.heap.size, 4, none⟩ = some (.int .i64 c.f) ∧ w'.cell? ⟨w.heap.size, 5, none⟩ = some (.int .i64 c.b) ∧ w'.cell? ⟨w.heap.size, 6, none⟩ = some (.int .i64 c.d) := fun w' t => by
    have := t.keep hb (by simp)
    exact ⟨cell_of this rfl, cell_of this rfl, cell_of this rfl, cell_of this rfl, cell_of this rfl, cell_of this rfl, cell_of this rfl⟩
  have wk : IntKind.i64.wrap ((k : Int) + 1) = (k : Int) + 1 := by rw [IntKind.wrap_i64]; have := hi.2; omega
  have zr := h.lt
  by_cases hks : k < s.size
  · obtain ⟨b, hbb⟩ : ∃ b, s[k] = b := ⟨_, rfl⟩
    have eR : kindR s x c = (passS x ((k : Int) + 1) (keepB c b.toNat), if passB x (keepB c b.toNat) then (b.toNat : Int) else 0) := by
      unfold kindR
      rw [ek, List.getElem?_eq_getElem (by simpa using hks), hk]
      simp only
      have e2 : s.data.toList[k] = b := by rw [← hbb]; rfl
      rw [e2]
    rw [eR]
    have HP := hid (fun w' (t : Touch [] V w') => pass_ (q0.keep0 t) ((k : Int) + 1) (keepB c b.toNat))
    have HK : Hid (∀ w, Calls Tryz.prog 145 #[cv c, .int .i64 b.toNat] w fun e w' => e = .returned (.bool (keepB c b.toNat)) ∧ Touch [] w w') := hid (fun w => keeps_ w c b.toNat)
    generalize passS x ((k : Int) + 1) (keepB c b.toNat) = S' at *
    generalize passB x (keepB c b.toNat) = B at *
    generalize keepB c b.toNat = KB at *
    have HQ : Hid (∀ w', Rq w' r s S' → w'.cell? ⟨r, 0, none⟩ = some (.string s)) := hid (fun w' q => cell_of (n := 0) q rfl)
    have z1 : (k : Int) < (s.size : Int) := by omega
    have z0 : (0 : Int) ≤ (k : Int) := by omega
    have HBb := hid b.toNat_lt
    have wb : IntKind.i64.wrap (b.toNat : Int) = (b.toNat : Int) := by rw [IntKind.wrap_i64]; have := HBb.out; omega
    unfold PT cv at *
    clear h hi hs eR ek hk TV hb q0
    go_enter Tryz.func131, Tryz.ntmps131
    go_upto_region 1 with fail
    rw [← hV]
    clear hV
    go_upto_region 2 with fail
    have s0 : Touch [] V V.drew := (Touch.refl _ _).drew
    refine wp_region_H (S := fun _ => True) (by kernel_rfl) ?_
    generalize V.drew = Wd at *
    clear c1
    refine wpH_take (i := 0) (v := (.pointer (some ⟨r, 0, none⟩))) (some 10) rfl rfl (by kernel_rfl) (by kernel_rfl) (by kernel_rfl) (fun _ _ _ h => h) (Or.inl ⟨by rfl, fun w' hS => (by go_simp)⟩) trivial ?_
    try simp only [Go.Act.put, List.setIfInBounds_toArray, List.set_cons_zero, List.set_cons_succ]
    refine wpH_take (i := 1) (v := (.int .i64 (k : Int))) (some 11) rfl rfl (by kernel_rfl) (by kernel_rfl) (by kernel_rfl) (fun _ _ _ h => h) (Or.inl ⟨by rfl, fun w' hS => (by go_simp)⟩) trivial ?_
    try simp only [Go.Act.put, List.setIfInBounds_toArray, List.set_cons_zero, List.set_cons_succ]
    refine wpH_take (i := 2) (v := (.int .i64 ((k : Int) + 1))) (some 12) rfl rfl (by kernel_rfl) (by kernel_rfl) (by kernel_rfl) (fun _ _ _ h => h) (Or.inl ⟨by rfl, fun w' hS => (by go_simp)⟩) trivial ?_
    try simp only [Go.Act.put, List.setIfInBounds_toArray, List.set_cons_zero, List.set_cons_succ]
    refine wpH_take (i := 3) (v := (.int .i64 (k : Int))) (some 13) rfl rfl (by kernel_rfl) (by kernel_rfl) (by kernel_rfl) (fun _ _ _ h => h) (Or.inl ⟨by rfl, fun w' hS => (by go_simp)⟩) trivial ?_
    try simp only [Go.Act.put, List.setIfInBounds_toArray, List.set_cons_zero, List.set_cons_succ]
    refine wpH_take (i := 4) (v := (.pointer (some ⟨r, 0, none⟩))) (some 14) rfl rfl (by kernel_rfl) (by kernel_rfl) (by kernel_rfl) (fun _ _ _ h => h) (Or.inl ⟨by rfl, fun w' hS => (by go_simp)⟩) trivial ?_
    try simp only [Go.Act.put, List.setIfInBounds_toArray, List.set_cons_zero, List.set_cons_succ]
    refine wpH_take (i := 5) (v := (.pointer (some ⟨r, 0, none⟩))) (some 15) rfl rfl (by kernel_rfl) (by kernel_rfl) (by kernel_rfl) (fun _ _ _ h => h) (Or.inl ⟨by rfl, fun w' hS => (by go_simp)⟩) trivial ?_
    try simp only [Go.Act.put, List.setIfInBounds_toArray, List.set_cons_zero, List.set_cons_succ]
    refine wpH_take (i := 6) (v := (.pointer (some ⟨r, 0, none⟩))) (some 16) rfl rfl (by kernel_rfl) (by kernel_rfl) (by kernel_rfl) (fun _ _ _ h => h) (Or.inl ⟨by rfl, fun w' hS => (by go_simp)⟩) trivial ?_
    try simp only [Go.Act.put, List.setIfInBounds_toArray, List.set_cons_zero, List.set_cons_succ]
    refine wpH_call (i := 7) (o := { dst := some 17, op := Op.load 9 (Operand.tmp 16), type := 9, pos := _, after := #[{ on := 6, ground := Ground.data }], guard := none }) (by kernel_rfl) rfl (fun K' hK => ?_)
    rw [if_pos (by rfl)]
    have z1 := C0 _ s0
    go_simp
    clear z1
    refine hK.out _ _ trivial ?_
    clear hK
    try simp only [Go.Act.put, List.setIfInBounds_toArray, List.set_cons_zero, List.set_cons_succ]
    refine wpH_take (i := 8) (v := (.int .i64 (s.size : Int))) (some 18) rfl rfl (by kernel_rfl) (by kernel_rfl) (by kernel_rfl) (fun _ _ _ h => h) (Or.inl ⟨by rfl, fun w' hS => (by go_simp)⟩) trivial ?_
    try simp only [Go.Act.put, List.setIfInBounds_toArray, List.set_cons_zero, List.set_cons_succ]
    refine wpH_take (i := 9) (v := (.bool true)) (some 19) rfl rfl (by kernel_rfl) (by kernel_rfl) (by kernel_rfl) (fun _ _ _ h => h) (Or.inl ⟨by rfl, fun w' hS => (by go_simp)⟩) trivial ?_
    try simp only [Go.Act.put, List.setIfInBounds_toArray, List.set_cons_zero, List.set_cons_succ]
    refine wpH_take (i := 10) (v := (.bool true)) (some 20) rfl rfl (by kernel_rfl) (by kernel_rfl) (by kernel_rfl) (fun _ _ _ h => h) (Or.inl ⟨by rfl, fun w' hS => (by go_simp)⟩) trivial ?_
    try simp only [Go.Act.put, List.setIfInBounds_toArray, List.set_cons_zero, List.set_cons_succ]
    refine wpH_take (i := 12) (v := (.pointer (some ⟨r, 0, none⟩))) (some 22) rfl rfl (by kernel_rfl) (by kernel_rfl) (by kernel_rfl) (fun _ _ _ h => h) (Or.inl ⟨by rfl, fun w' hS => (by go_simp)⟩) trivial ?_
    try simp only [Go.Act.put, List.setIfInBounds_toArray, List.set_cons_zero, List.set_cons_succ]
    refine wpH_take (i := 13) (v := (.pointer (some ⟨r, 0, none⟩))) (some 23) rfl rfl (by kernel_rfl) (by kernel_rfl) (by kernel_rfl) (fun _ _ _ h => h) (Or.inl ⟨by rfl, fun w' hS => (by go_simp)⟩) trivial ?_
    try simp only [Go.Act.put, List.setIfInBounds_toArray, List.set_cons_zero, List.set_cons_succ]
    refine wpH_take (i := 14) (v := (.pointer (some ⟨r, 0, none⟩))) (some 24) rfl rfl (by kernel_rfl) (by kernel_rfl) (by kernel_rfl) (fun _ _ _ h => h) (Or.inl ⟨by rfl, fun w' hS => (by go_simp)⟩) trivial ?_
    try simp only [Go.Act.put, List.setIfInBounds_toArray, List.set_cons_zero, List.set_cons_succ]
    refine wpH_take (i := 16) (v := (.int .i64 (k : Int))) (some 26) rfl rfl (by kernel_rfl) (by kernel_rfl) (by kernel_rfl) (fun _ _ _ h => h) (Or.inl ⟨by rfl, fun w' hS => (by go_simp)⟩) trivial ?_
    try simp only [Go.Act.put, List.setIfInBounds_toArray, List.set_cons_zero, List.set_cons_succ]
    refine wpH_ready (rs := [11, 15]) (by kernel_rfl) (by simp) ?_
    refine AllH.cons (o := { dst := some 21, op := Op.load 23 (Operand.tmp 3), type := 23, pos := _, after := #[{ on := 10, ground := Ground.guard }], guard := some (10, true) }) rfl (fun K' hK => ?_) ?_
    · rw [if_pos (by rfl)]
      obtain ⟨z20, z21, z22, z23, z24, z25, z26⟩ := X7 _ s0
      go_simp
      clear z20 z21 z22 z23 z24 z25 z26
      refine hK.out _ _ trivial ?_
      clear hK
      try simp only [Go.Act.put, List.setIfInBounds_toArray, List.set_cons_zero, List.set_cons_succ]
      refine wpH_call (i := 15) (o := { dst := some 25, op := Op.load 9 (Operand.tmp 24), type := 9, pos := _, after := #[{ on := 14, ground := Ground.data }, { on := 10, ground := Ground.guard }], guard := some (10, true) }) (by kernel_rfl) rfl (fun K' hK => ?_)
      rw [if_pos (by rfl)]
      have z3 := C0 _ s0
      go_simp
      clear z3
      refine hK.out _ _ trivial ?_
      clear hK
      try simp only [Go.Act.put, List.setIfInBounds_toArray, List.set_cons_zero, List.set_cons_succ]
      refine wpH_take (i := 17) (v := (.int .u8 (b.toNat : Int))) (some 27) rfl rfl (by kernel_rfl) (by kernel_rfl) (by kernel_rfl) (fun _ _ _ h => h) (Or.inl ⟨by rfl, fun w' hS => (by go_simp)⟩) trivial ?_
      try simp only [Go.Act.put, List.setIfInBounds_toArray, List.set_cons_zero, List.set_cons_succ]
      refine wpH_take (i := 18) (v := (.int .i64 (b.toNat : Int))) (some 28) rfl rfl (by kernel_rfl) (by kernel_rfl) (by kernel_rfl) (fun _ _ _ h => h) (Or.inl ⟨by rfl, fun w' hS => (by go_simp)⟩) trivial ?_
      try simp only [Go.Act.put, List.setIfInBounds_toArray, List.set_cons_zero, List.set_cons_succ]
      refine wpH_call (i := 19) (o := { dst := some 29, op := Op.call { callee := Callee.value (Operand.func 145), args := #[Operand.tmp 21, Operand.tmp 28], argTypes := #[23, 3] }, type := 4, pos := _, after := #[{ on := 11, ground := Ground.data }, { on := 18, ground := Ground.data }, { on := 10, ground := Ground.chain }, { on := 10, ground := Ground.guard }], guard := some (10, true) }) (by kernel_rfl) rfl (fun K' hK => ?_)
      rw [if_pos (by rfl)]
      go_simp
      refine (HK.out _).mono ?_
      rintro e v4 ⟨rfl, t4⟩
      have s4 : Touch [] V v4 := s0.trans' t4
      refine hK.out _ _ trivial ?_
      clear hK
      try simp only [Go.Act.put, List.setIfInBounds_toArray, List.set_cons_zero, List.set_cons_succ]
      refine wpH_take (i := 20) (v := (.bool KB)) (some 30) rfl rfl (by kernel_rfl) (by kernel_rfl) (by kernel_rfl) (fun _ _ _ h => h) (Or.inl ⟨by rfl, fun w' hS => (by go_simp)⟩) trivial ?_
      try simp only [Go.Act.put, List.setIfInBounds_toArray, List.set_cons_zero, List.set_cons_succ]
      refine wpH_call (i := 21) (o := { dst := some 31, op := Op.call { callee := Callee.value (Operand.func 92), args := #[Operand.tmp 10, Operand.tmp 12, Operand.tmp 30], argTypes := #[106, 3, 4] }, type := 4, pos := _, after := #[{ on := 0, ground := Ground.data }, { on := 2, ground := Ground.data }, { on := 20, ground := Ground.data }, { on := 19, ground := Ground.chain }], guard := none }) (by kernel_rfl) rfl (fun K' hK => ?_)
      rw [if_pos (by rfl)]
      go_simp
      refine (HP.out _ s4).mono ?_
      rintro e v5 ⟨rfl, q2, t2⟩
      have Q2 := hid (And.intro q2 (touch_r s4 t2))
      refine hK.out _ _ trivial ?_
      clear hK
      try simp only [Go.Act.put, List.setIfInBounds_toArray, List.set_cons_zero, List.set_cons_succ]
      refine wpH_take (i := 22) (v := (.bool (!B))) (some 32) rfl rfl (by kernel_rfl) (by kernel_rfl) (by kernel_rfl) (fun _ _ _ h => h) (Or.inl ⟨by rfl, fun w' hS => (by go_simp)⟩) trivial ?_
      try simp only [Go.Act.put, List.setIfInBounds_toArray, List.set_cons_zero, List.set_cons_succ]
      refine wpAnyH_done (by kernel_rfl) ?_ _
      clear t2
      have d0 := HQ.out _ Q2.out.1
      cases B with
      | false =>
        go_wp2_with fail
        go_ret
        exact ⟨rfl, Q2.out.1, FIN.out _ Q2.out.2⟩
      | true =>
        go_wp2_with fail
        go_ret
        exact ⟨rfl, Q2.out.1, FIN.out _ Q2.out.2⟩
    refine AllH.cons (o := { dst := some 25, op := Op.load 9 (Operand.tmp 24), type := 9, pos := _, after := #[{ on := 14, ground := Ground.data }, { on := 10, ground := Ground.guard }], guard := some (10, true) }) rfl (fun K' hK => ?_) ?_
    · rw [if_pos (by rfl)]
      have z6 := C0 _ s0
      go_simp
      clear z6
      refine hK.out _ _ trivial ?_
      clear hK
      try simp only [Go.Act.put, List.setIfInBounds_toArray, List.set_cons_zero, List.set_cons_succ]
      refine wpH_take (i := 17) (v := (.int .u8 (b.toNat : Int))) (some 27) rfl rfl (by kernel_rfl) (by kernel_rfl) (by kernel_rfl) (fun _ _ _ h => h) (Or.inl ⟨by rfl, fun w' hS => (by go_simp)⟩) trivial ?_
      try simp only [Go.Act.put, List.setIfInBounds_toArray, List.set_cons_zero, List.set_cons_succ]
      refine wpH_take (i := 18) (v := (.int .i64 (b.toNat : Int))) (some 28) rfl rfl (by kernel_rfl) (by kernel_rfl) (by kernel_rfl) (fun _ _ _ h => h) (Or.inl ⟨by rfl, fun w' hS => (by go_simp)⟩) trivial ?_
      try simp only [Go.Act.put, List.setIfInBounds_toArray, List.set_cons_zero, List.set_cons_succ]
      refine wpH_call (i := 11) (o := { dst := some 21, op := Op.load 23 (Operand.tmp 3), type := 23, pos := _, after := #[{ on := 10, ground := Ground.guard }], guard := some (10, true) }) (by kernel_rfl) rfl (fun K' hK => ?_)
      rw [if_pos (by rfl)]
      obtain ⟨z70, z71, z72, z73, z74, z75, z76⟩ := X7 _ s0
      go_simp
      clear z70 z71 z72 z73 z74 z75 z76
      refine hK.out _ _ trivial ?_
      clear hK
      try simp only [Go.Act.put, List.setIfInBounds_toArray, List.set_cons_zero, List.set_cons_succ]
      refine wpH_call (i := 19) (o := { dst := some 29, op := Op.call { callee := Callee.value (Operand.func 145), args := #[Operand.tmp 21, Operand.tmp 28], argTypes := #[23, 3] }, type := 4, pos := _, after := #[{ on := 11, ground := Ground.data }, { on := 18, ground := Ground.data }, { on := 10, ground := Ground.chain }, { on := 10, ground := Ground.guard }], guard := some (10, true) }) (by kernel_rfl) rfl (fun K' hK => ?_)
      rw [if_pos (by rfl)]
      go_simp
      refine (HK.out _).mono ?_
      rintro e v8 ⟨rfl, t8⟩
      have s8 : Touch [] V v8 := s0.trans' t8
      refine hK.out _ _ trivial ?_
      clear hK
      try simp only [Go.Act.put, List.setIfInBounds_toArray, List.set_cons_zero, List.set_cons_succ]
      refine wpH_take (i := 20) (v := (.bool KB)) (some 30) rfl rfl (by kernel_rfl) (by kernel_rfl) (by kernel_rfl) (fun _ _ _ h => h) (Or.inl ⟨by rfl, fun w' hS => (by go_simp)⟩) trivial ?_
      try simp only [Go.Act.put, List.setIfInBounds_toArray, List.set_cons_zero, List.set_cons_succ]
      refine wpH_call (i := 21) (o := { dst := some 31, op := Op.call { callee := Callee.value (Operand.func 92), args := #[Operand.tmp 10, Operand.tmp 12, Operand.tmp 30], argTypes := #[106, 3, 4] }, type := 4, pos := _, after := #[{ on := 0, ground := Ground.data }, { on := 2, ground := Ground.data }, { on := 20, ground := Ground.data }, { on := 19, ground := Ground.chain }], guard := none }) (by kernel_rfl) rfl (fun K' hK => ?_)
      rw [if_pos (by rfl)]
      go_simp
      refine (HP.out _ s8).mono ?_
      rintro e v9 ⟨rfl, q2, t2⟩
      have Q2 := hid (And.intro q2 (touch_r s8 t2))
      refine hK.out _ _ trivial ?_
      clear hK
      try simp only [Go.Act.put, List.setIfInBounds_toArray, List.set_cons_zero, List.set_cons_succ]
      refine wpH_take (i := 22) (v := (.bool (!B))) (some 32) rfl rfl (by kernel_rfl) (by kernel_rfl) (by kernel_rfl) (fun _ _ _ h => h) (Or.inl ⟨by rfl, fun w' hS => (by go_simp)⟩) trivial ?_
      try simp only [Go.Act.put, List.setIfInBounds_toArray, List.set_cons_zero, List.set_cons_succ]
      refine wpAnyH_done (by kernel_rfl) ?_ _
      clear t2
      have d0 := HQ.out _ Q2.out.1
      cases B with
      | false =>
        go_wp2_with fail
        go_ret
        exact ⟨rfl, Q2.out.1, FIN.out _ Q2.out.2⟩
      | true =>
        go_wp2_with fail
        go_ret
        exact ⟨rfl, Q2.out.1, FIN.out _ Q2.out.2⟩
    exact AllH.nil
  · have eR : kindR s x c = (passS x ((k : Int) + 1) false, 0) := by
      unfold kindR
      rw [ek, List.getElem?_eq_none (by simp; omega), hk]
    rw [eR]
    have HP := hid (fun w' (t : Touch [] V w') => pass_ (q0.keep0 t) ((k : Int) + 1) false)
    have HBF : ¬ passB x false = true := by unfold passB; split <;> simp
    generalize passS x ((k : Int) + 1) false = S' at *
    generalize passB x false = B at *
    have z1 : ¬ (k : Int) < (s.size : Int) := by omega
    unfold PT cv at *
    clear h hi hs eR ek hk TV hb q0 X7
    go_enter Tryz.func131, Tryz.ntmps131
    go_upto_region 1 with fail
    rw [← hV]
    clear hV
    go_upto_region 2 with fail
    have s0 : Touch [] V V.drew := (Touch.refl _ _).drew
    refine wp_region_H (S := fun _ => True) (by kernel_rfl) ?_
    generalize V.drew = Wd at *
    clear c1
    refine wpH_take (i := 0) (v := (.pointer (some ⟨r, 0, none⟩))) (some 10) rfl rfl (by kernel_rfl) (by kernel_rfl) (by kernel_rfl) (fun _ _ _ h => h) (Or.inl ⟨by rfl, fun w' hS => (by go_simp)⟩) trivial ?_
    try simp only [Go.Act.put, List.setIfInBounds_toArray, List.set_cons_zero, List.set_cons_succ]
    refine wpH_take (i := 1) (v := (.int .i64 (k : Int))) (some 11) rfl rfl (by kernel_rfl) (by kernel_rfl) (by kernel_rfl) (fun _ _ _ h => h) (Or.inl ⟨by rfl, fun w' hS => (by go_simp)⟩) trivial ?_
    try simp only [Go.Act.put, List.setIfInBounds_toArray, List.set_cons_zero, List.set_cons_succ]
    refine wpH_take (i := 2) (v := (.int .i64 ((k : Int) + 1))) (some 12) rfl rfl (by kernel_rfl) (by kernel_rfl) (by kernel_rfl) (fun _ _ _ h => h) (Or.inl ⟨by rfl, fun w' hS => (by go_simp)⟩) trivial ?_
    try simp only [Go.Act.put, List.setIfInBounds_toArray, List.set_cons_zero, List.set_cons_succ]
    refine wpH_take (i := 3) (v := (.int .i64 (k : Int))) (some 13) rfl rfl (by kernel_rfl) (by kernel_rfl) (by kernel_rfl) (fun _ _ _ h => h) (Or.inl ⟨by rfl, fun w' hS => (by go_simp)⟩) trivial ?_
    try simp only [Go.Act.put, List.setIfInBounds_toArray, List.set_cons_zero, List.set_cons_succ]
    refine wpH_take (i := 4) (v := (.pointer (some ⟨r, 0, none⟩))) (some 14) rfl rfl (by kernel_rfl) (by kernel_rfl) (by kernel_rfl) (fun _ _ _ h => h) (Or.inl ⟨by rfl, fun w' hS => (by go_simp)⟩) trivial ?_
    try simp only [Go.Act.put, List.setIfInBounds_toArray, List.set_cons_zero, List.set_cons_succ]
    refine wpH_take (i := 5) (v := (.pointer (some ⟨r, 0, none⟩))) (some 15) rfl rfl (by kernel_rfl) (by kernel_rfl) (by kernel_rfl) (fun _ _ _ h => h) (Or.inl ⟨by rfl, fun w' hS => (by go_simp)⟩) trivial ?_
    try simp only [Go.Act.put, List.setIfInBounds_toArray, List.set_cons_zero, List.set_cons_succ]
    refine wpH_take (i := 6) (v := (.pointer (some ⟨r, 0, none⟩))) (some 16) rfl rfl (by kernel_rfl) (by kernel_rfl) (by kernel_rfl) (fun _ _ _ h => h) (Or.inl ⟨by rfl, fun w' hS => (by go_simp)⟩) trivial ?_
    try simp only [Go.Act.put, List.setIfInBounds_toArray, List.set_cons_zero, List.set_cons_succ]
    refine wpH_call (i := 7) (o := { dst := some 17, op := Op.load 9 (Operand.tmp 16), type := 9, pos := _, after := #[{ on := 6, ground := Ground.data }], guard := none }) (by kernel_rfl) rfl (fun K' hK => ?_)
    rw [if_pos (by rfl)]
    have z1 := C0 _ s0
    go_simp
    clear z1
    refine hK.out _ _ trivial ?_
    clear hK
    try simp only [Go.Act.put, List.setIfInBounds_toArray, List.set_cons_zero, List.set_cons_succ]
    refine wpH_take (i := 8) (v := (.int .i64 (s.size : Int))) (some 18) rfl rfl (by kernel_rfl) (by kernel_rfl) (by kernel_rfl) (fun _ _ _ h => h) (Or.inl ⟨by rfl, fun w' hS => (by go_simp)⟩) trivial ?_
    try simp only [Go.Act.put, List.setIfInBounds_toArray, List.set_cons_zero, List.set_cons_succ]
    refine wpH_take (i := 9) (v := (.bool false)) (some 19) rfl rfl (by kernel_rfl) (by kernel_rfl) (by kernel_rfl) (fun _ _ _ h => h) (Or.inl ⟨by rfl, fun w' hS => (by go_simp)⟩) trivial ?_
    try simp only [Go.Act.put, List.setIfInBounds_toArray, List.set_cons_zero, List.set_cons_succ]
    refine wpH_take (i := 10) (v := (.bool false)) (some 20) rfl rfl (by kernel_rfl) (by kernel_rfl) (by kernel_rfl) (fun _ _ _ h => h) (Or.inl ⟨by rfl, fun w' hS => (by go_simp)⟩) trivial ?_
    try simp only [Go.Act.put, List.setIfInBounds_toArray, List.set_cons_zero, List.set_cons_succ]
    refine wpH_take (i := 11) (v := undef) (some 21) rfl rfl (by kernel_rfl) (by kernel_rfl) (by kernel_rfl) (fun _ _ _ h => h) (Or.inr ⟨by rfl, rfl⟩) trivial ?_
    try simp only [Go.Act.put, List.setIfInBounds_toArray, List.set_cons_zero, List.set_cons_succ]
    refine wpH_take (i := 12) (v := undef) (some 22) rfl rfl (by kernel_rfl) (by kernel_rfl) (by kernel_rfl) (fun _ _ _ h => h) (Or.inr ⟨by rfl, rfl⟩) trivial ?_
    try simp only [Go.Act.put, List.setIfInBounds_toArray, List.set_cons_zero, List.set_cons_succ]
    refine wpH_take (i := 13) (v := undef) (some 23) rfl rfl (by kernel_rfl) (by kernel_rfl) (by kernel_rfl) (fun _ _ _ h => h) (Or.inr ⟨by rfl, rfl⟩) trivial ?_
    try simp only [Go.Act.put, List.setIfInBounds_toArray, List.set_cons_zero, List.set_cons_succ]
    refine wpH_take (i := 14) (v := undef) (some 24) rfl rfl (by kernel_rfl) (by kernel_rfl) (by kernel_rfl) (fun _ _ _ h => h) (Or.inr ⟨by rfl, rfl⟩) trivial ?_
    try simp only [Go.Act.put, List.setIfInBounds_toArray, List.set_cons_zero, List.set_cons_succ]
    refine wpH_take (i := 15) (v := undef) (some 25) rfl rfl (by kernel_rfl) (by kernel_rfl) (by kernel_rfl) (fun _ _ _ h => h) (Or.inr ⟨by rfl, rfl⟩) trivial ?_
    try simp only [Go.Act.put, List.setIfInBounds_toArray, List.set_cons_zero, List.set_cons_succ]
    refine wpH_take (i := 16) (v := undef) (some 26) rfl rfl (by kernel_rfl) (by kernel_rfl) (by kernel_rfl) (fun _ _ _ h => h) (Or.inr ⟨by rfl, rfl⟩) trivial ?_
    try simp only [Go.Act.put, List.setIfInBounds_toArray, List.set_cons_zero, List.set_cons_succ]
    refine wpH_take (i := 17) (v := undef) (some 27) rfl rfl (by kernel_rfl) (by kernel_rfl) (by kernel_rfl) (fun _ _ _ h => h) (Or.inr ⟨by rfl, rfl⟩) trivial ?_
    try simp only [Go.Act.put, List.setIfInBounds_toArray, List.set_cons_zero, List.set_cons_succ]
    refine wpH_take (i := 18) (v := undef) (some 28) rfl rfl (by kernel_rfl) (by kernel_rfl) (by kernel_rfl) (fun _ _ _ h => h) (Or.inr ⟨by rfl, rfl⟩) trivial ?_
    try simp only [Go.Act.put, List.setIfInBounds_toArray, List.set_cons_zero, List.set_cons_succ]
    refine wpH_take (i := 19) (v := undef) (some 29) rfl rfl (by kernel_rfl) (by kernel_rfl) (by kernel_rfl) (fun _ _ _ h => h) (Or.inr ⟨by rfl, rfl⟩) trivial ?_
    try simp only [Go.Act.put, List.setIfInBounds_toArray, List.set_cons_zero, List.set_cons_succ]
    refine wpH_take (i := 20) (v := (.bool false)) (some 30) rfl rfl (by kernel_rfl) (by kernel_rfl) (by kernel_rfl) (fun _ _ _ h => h) (Or.inl ⟨by rfl, fun w' hS => (by go_simp)⟩) trivial ?_
    try simp only [Go.Act.put, List.setIfInBounds_toArray, List.set_cons_zero, List.set_cons_succ]
    refine wpH_call (i := 21) (o := { dst := some 31, op := Op.call { callee := Callee.value (Operand.func 92), args := #[Operand.tmp 10, Operand.tmp 12, Operand.tmp 30], argTypes := #[106, 3, 4] }, type := 4, pos := _, after := #[{ on := 0, ground := Ground.data }, { on := 2, ground := Ground.data }, { on := 20, ground := Ground.data }, { on := 19, ground := Ground.chain }], guard := none }) (by kernel_rfl) rfl (fun K' hK => ?_)
    rw [if_pos (by rfl)]
    go_simp
    refine (HP.out _ s0).mono ?_
    rintro e v2 ⟨rfl, q2, t2⟩
    have Q2 := hid (And.intro q2 (touch_r s0 t2))
    refine hK.out _ _ trivial ?_
    clear hK
    try simp only [Go.Act.put, List.setIfInBounds_toArray, List.set_cons_zero, List.set_cons_succ]
    refine wpH_take (i := 22) (v := (.bool (!B))) (some 32) rfl rfl (by kernel_rfl) (by kernel_rfl) (by kernel_rfl) (fun _ _ _ h => h) (Or.inl ⟨by rfl, fun w' hS => (by go_simp)⟩) trivial ?_
    try simp only [Go.Act.put, List.setIfInBounds_toArray, List.set_cons_zero, List.set_cons_succ]
    refine wpAnyH_done (by kernel_rfl) ?_ _
    clear t2
    cases B with
    | false =>
      go_wp2_with fail
      go_ret
      exact ⟨rfl, Q2.out.1, FIN.out _ Q2.out.2⟩
    | true => exact absurd rfl HBF
end Go.Proofs.YtpefbmheblfbeaaGreat.Sn
/- The contract of the program's reader for an outcome; the text's length is a number of the language's, the reader stands within the text. -/
namespace Go.Proofs.YtpefbmheblfbeaaGreat.Sn
open Go.RowKit Go.Sort Go.Shelf Me
set_option linter.unusedVariables false
set_option linter.unusedSimpArgs false
def outR (s : ByteArray) (x : Rd) (c : Cf) : Rd × O :=
  if (kindR s x c).2 = 0 then ((sigR s (kindR s x c).1).1, ((sigR s (kindR s x c).1).2, 0, 0, 0))
  else ((numR s (sigR s (kindR s x c).1).1 1 9223372036854775807).1, (0, (kindR s x c).2, (sigR s (kindR s x c).1).2, (numR s (sigR s (kindR s x c).1).1 1 9223372036854775807).2))
theorem Rin.pass {s : ByteArray} {x : Rd} (h : Rin s x) {n : Int} {b : Bool} (hn : b = true → 0 ≤ n ∧ n ≤ s.size) : Rin s (passS x n b) := by
  unfold passS
  split
  · exact h
  · split
    · rename_i hb
      exact hn hb
    · exact h
theorem Rin.kind {s : ByteArray} {x : Rd} (h : Rin s x) (c : Cf) : Rin s (kindR s x c).1 := by
  unfold kindR
  cases hg : s.data.toList[x.at_.toNat]? with
  | none => exact h.pass (fun e => by cases e)
  | some b =>
    refine h.pass (fun _ => ?_)
    have := (List.getElem?_eq_some_iff.1 hg).1
    rw [Array.length_toList] at this
    have h2 : x.at_.toNat < s.size := this
    have := h.1
    omega
set_option maxHeartbeats 2000000 in
theorem outcome_r {w : World} {r : Nat} {s : ByteArray} {x : Rd} (h : Rq w r s x) (hi : Rin s x) (hs : s.size ≤ 140737488351232) (c : Cf) : Calls Tryz.prog 98 #[PT r, cv c] w fun e w' => e = .returned (ov (outR s x c).2) ∧ Rq w' r s (outR s x c).1 ∧ Touch [r] w w' := by
  obtain ⟨V1, hV1⟩ : ∃ V1, V1 = w.alloc (.cells #[.int .i64 c.t, .int .i64 c.n, .int .i64 c.s, .int .i64 c.e, .int .i64 c.f, .int .i64 c.b, .int .i64 c.d] 23) := ⟨_, rfl⟩
  obtain ⟨V, hV⟩ : ∃ V, V = V1.alloc (.cells #[.int .i64 0, .int .i64 0, .int .i64 0, .int .i64 0] 58) := ⟨_, rfl⟩
  have T1 : Touch [] w V1 := by rw [hV1]; exact (Touch.refl _ _).alloc _
  have T2 : Touch [] V1 V := by rw [hV]; exact (Touch.refl _ _).alloc _
  have e1 : V1.heap.size = w.heap.size + 1 := by rw [hV1]; simp
  have hb0 : V.heap[w.heap.size]? = some (.cells #[.int .i64 c.t, .int .i64 c.n, .int .i64 c.s, .int .i64 c.e, .int .i64 c.f, .int .i64 c.b, .int .i64 c.d] 23 (0, 0)) := T2.keep (by rw [hV1]; exact heap_alloc_new w _) (by simp)
  have hb1 : V.heap[w.heap.size + 1]? = some (.cells #[.int .i64 0, .int .i64 0, .int .i64 0, .int .i64 0] 58 (0, 0)) := by rw [← e1, hV]; exact heap_alloc_new V1 _
  have q0 : Rq V r s x := (h.keep0 T1).keep0 T2
  have hVs : V = (w.alloc (.cells #[.int .i64 c.t, .int .i64 c.n, .int .i64 c.s, .int .i64 c.e, .int .i64 c.f, .int .i64 c.b, .int .i64 c.d] 23)).alloc (.cells #[.int .i64 0, .int .i64 0, .int .i64 0, .int .i64 0] 58) := by rw [hV, hV1]
  have hr := h.lt
  have ne1 : w.heap.size + 1 ≠ r := by omega
  have HTV := hid (T1.trans' T2)
  have H1 := hid (kind_r q0 hi hs c)
  have j1 := hi.kind c
  unfold outR
  generalize kindR s x c = a at *
  have H2 := hid (fun w' (q : Rq w' r s a.1) => signed_r q j1 hs)
  have j2 := j1.sig
  generalize sigR s a.1 = b at *
  have H3 := hid (fun w' (q : Rq w' r s b.1) => number_r q j2 hs 1 9223372036854775807 (by omega) (by omega) (by omega) (by omega))
  generalize numR s b.1 1 9223372036854775807 = d at *
  have x0 := cell_of (n := 0) hb0 rfl
  have x1 := cell_of (n := 1) hb0 rfl
  have x2 := cell_of (n := 2) hb0 rfl
  have x3 := cell_of (n := 3) hb0 rfl
  have x4 := cell_of (n := 4) hb0 rfl
  have x5 := cell_of (n := 5) hb0 rfl
  have x6 := cell_of (n := 6) hb0 rfl
  clear h hi hs hV hV1 T1 T2 e1 j1 j2
  unfold PT cv at *
  by_cases hk : a.2 = 0
  · rw [if_pos hk]
    obtain ⟨Fsx, hFsx⟩ : ∃ Fsx, Fsx = b.1 := ⟨_, rfl⟩
    rw [← hFsx]
    unfold ov
    rw [hk] at H1
    go_enter Tryz.func98, Tryz.ntmps98
    go_upto_region 1 with fail
    rw [← hVs]
    clear hVs
    go_upto_region 2 with (go_at_call 131; refine H1.out.mono ?_; rintro e u1 ⟨rfl, p1, t1⟩)
    clear x0 x1 x2 x3 x4 x5 x6
    go_wp2_with (go_at_call 132; refine (H2.out _ p1).mono ?_; rintro e u2 ⟨rfl, p2, t2⟩; have b9 := boxT (t1.trans' t2) hb1 ne1; have o0 := cell_of (n := 0) b9 rfl; have o1 := cell_of (n := 1) b9 rfl; have o2 := cell_of (n := 2) b9 rfl; have o3 := cell_of (n := 3) b9 rfl; have g0 := froz_at b9 0; have g1 := froz_at b9 1; have g2 := froz_at b9 2; have g3 := froz_at b9 3)
    obtain ⟨W9, hW9⟩ : ∃ W9, W9 = ((((u2).setCell ⟨w.heap.size + 1, 0, none⟩ (.int .i64 b.2)).setCell ⟨w.heap.size + 1, 1, none⟩ (.int .i64 0)).setCell ⟨w.heap.size + 1, 2, none⟩ (.int .i64 0)).setCell ⟨w.heap.size + 1, 3, none⟩ (.int .i64 0) := ⟨_, rfl⟩
    have t9 : Touch [w.heap.size + 1] u2 W9 := by rw [hW9]; exact (((((Touch.refl [w.heap.size + 1] u2).setCell (p := ⟨w.heap.size + 1, 0, none⟩) (Or.inl (by simp)) (.int .i64 b.2)).setCell (p := ⟨w.heap.size + 1, 1, none⟩) (Or.inl (by simp)) (.int .i64 0)).setCell (p := ⟨w.heap.size + 1, 2, none⟩) (Or.inl (by simp)) (.int .i64 0)).setCell (p := ⟨w.heap.size + 1, 3, none⟩) (Or.inl (by simp)) (.int .i64 0))
    have q8 : Rq W9 r s Fsx := by rw [hFsx]; exact t9.keep p2 (by simpa using ne1.symm)
    have b8 : W9.heap[w.heap.size + 1]? = some (.cells #[.int .i64 b.2, .int .i64 0, .int .i64 0, .int .i64 0] 58 (0, 0)) := by rw [hW9]; exact (bset (i := 3) (bset (i := 2) (bset (i := 1) (bset (i := 0) b9 (.int .i64 b.2)) (.int .i64 0)) (.int .i64 0)) (.int .i64 0))
    have t8 : Touch [r] w W9 := (HTV.out.mono (G := [r]) (by simp)).trans (((t1.trans' t2).mono (G := [r, w.heap.size + 1]) (by simp)).trans' (t9.mono (by simp))) (fun k hk => by
      simp at hk
      rcases hk with rfl | rfl
      · exact Or.inl (by simp)
      · exact Or.inr (by omega))
    rw [← hW9]
    clear hW9 o0 o1 o2 o3 g0 g1 g2 g3 b9
    have y0 : W9.cell? ⟨w.heap.size + 1, 0, none⟩ = some (.int .i64 b.2) := cell_of b8 rfl
    have y1 : W9.cell? ⟨w.heap.size + 1, 1, none⟩ = some (.int .i64 0) := cell_of b8 rfl
    have y2 : W9.cell? ⟨w.heap.size + 1, 2, none⟩ = some (.int .i64 0) := cell_of b8 rfl
    have y3 : W9.cell? ⟨w.heap.size + 1, 3, none⟩ = some (.int .i64 0) := cell_of b8 rfl
    clear b8 t9
    exact bodyPost_ret (v := .agg #[.int .i64 b.2, .int .i64 0, .int .i64 0, .int .i64 0]) (by simp [results, Tryz.results98, go_sem, y0, y1, y2, y3]) rfl ⟨rfl, q8, t8⟩
  · rw [if_neg hk]
    have hkb : (a.2 == 0) = false := by simpa using hk
    obtain ⟨Fsx, hFsx⟩ : ∃ Fsx, Fsx = d.1 := ⟨_, rfl⟩
    rw [← hFsx]
    unfold ov
    go_enter Tryz.func98, Tryz.ntmps98
    go_upto_region 1 with fail
    rw [← hVs]
    clear hVs
    go_upto_region 2 with (go_at_call 131; refine H1.out.mono ?_; rintro e u1 ⟨rfl, p1, t1⟩)
    clear x0 x1 x2 x3 x4 x5 x6
    go_wp2_with (first
      | (go_at_call 132; refine (H2.out _ p1).mono ?_; rintro e u2 ⟨rfl, p2, t2⟩)
      | (go_at_call 46; refine (H3.out _ p2).mono ?_; rintro e u3 ⟨rfl, p3, t3⟩; have b9 := boxT ((t1.trans' t2).trans' t3) hb1 ne1; have o0 := cell_of (n := 0) b9 rfl; have o1 := cell_of (n := 1) b9 rfl; have o2 := cell_of (n := 2) b9 rfl; have o3 := cell_of (n := 3) b9 rfl; have g0 := froz_at b9 0; have g1 := froz_at b9 1; have g2 := froz_at b9 2; have g3 := froz_at b9 3))
    obtain ⟨W9, hW9⟩ : ∃ W9, W9 = ((((u3).setCell ⟨w.heap.size + 1, 0, none⟩ (.int .i64 0)).setCell ⟨w.heap.size + 1, 1, none⟩ (.int .i64 a.2)).setCell ⟨w.heap.size + 1, 2, none⟩ (.int .i64 b.2)).setCell ⟨w.heap.size + 1, 3, none⟩ (.int .i64 d.2) := ⟨_, rfl⟩
    have t9 : Touch [w.heap.size + 1] u3 W9 := by rw [hW9]; exact (((((Touch.refl [w.heap.size + 1] u3).setCell (p := ⟨w.heap.size + 1, 0, none⟩) (Or.inl (by simp)) (.int .i64 0)).setCell (p := ⟨w.heap.size + 1, 1, none⟩) (Or.inl (by simp)) (.int .i64 a.2)).setCell (p := ⟨w.heap.size + 1, 2, none⟩) (Or.inl (by simp)) (.int .i64 b.2)).setCell (p := ⟨w.heap.size + 1, 3, none⟩) (Or.inl (by simp)) (.int .i64 d.2))
    have q8 : Rq W9 r s Fsx := by rw [hFsx]; exact t9.keep p3 (by simpa using ne1.symm)
    have b8 : W9.heap[w.heap.size + 1]? = some (.cells #[.int .i64 0, .int .i64 a.2, .int .i64 b.2, .int .i64 d.2] 58 (0, 0)) := by rw [hW9]; exact (bset (i := 3) (bset (i := 2) (bset (i := 1) (bset (i := 0) b9 (.int .i64 0)) (.int .i64 a.2)) (.int .i64 b.2)) (.int .i64 d.2))
    have t8 : Touch [r] w W9 := (HTV.out.mono (G := [r]) (by simp)).trans ((((t1.trans' t2).trans' t3).mono (G := [r, w.heap.size + 1]) (by simp)).trans' (t9.mono (by simp))) (fun k hk => by
      simp at hk
      rcases hk with rfl | rfl
      · exact Or.inl (by simp)
      · exact Or.inr (by omega))
    rw [← hW9]
    clear hW9 o0 o1 o2 o3 g0 g1 g2 g3 b9
    have y0 : W9.cell? ⟨w.heap.size + 1, 0, none⟩ = some (.int .i64 0) := cell_of b8 rfl
    have y1 : W9.cell? ⟨w.heap.size + 1, 1, none⟩ = some (.int .i64 a.2) := cell_of b8 rfl
    have y2 : W9.cell? ⟨w.heap.size + 1, 2, none⟩ = some (.int .i64 b.2) := cell_of b8 rfl
    have y3 : W9.cell? ⟨w.heap.size + 1, 3, none⟩ = some (.int .i64 d.2) := cell_of b8 rfl
    clear b8 t9
    exact bodyPost_ret (v := .agg #[.int .i64 0, .int .i64 a.2, .int .i64 b.2, .int .i64 d.2]) (by simp [results, Tryz.results98, go_sem, y0, y1, y2, y3]) rfl ⟨rfl, q8, t8⟩
end Go.Proofs.YtpefbmheblfbeaaGreat.Sn
/- Taking a key from bytes, on both sides, as one plain function; the text's length is within the form's reach. -/
namespace Go.Proofs.YtpefbmheblfbeaaGreat.Sn
open Go.RowKit Go.Sort Go.Shelf Me
set_option linter.unusedVariables false
set_option linter.unusedSimpArgs false
def takK (s : ByteArray) (at_ : Int) : Option (K × Int) :=
  if at_ < 0 then none else
  match (s.data.toList.drop at_.toNat) with
  | p :: q :: n :: l => if 64 < n.toNat ∨ l.length < n.toNat then none else some (((p.toNat : Int) + 256 * (q.toNat : Int), ⟨(l.take n.toNat).toArray⟩), at_ + 3 + (n.toNat : Int))
  | _ => none
def takKV : Option (K × Int) → Value
  | some (k, n) => .tuple #[kv k, .int .i64 n, .bool true]
  | none => .tuple #[zeroKey, .int .i64 0, .bool false]
theorem drop3 (s : ByteArray) (k : Nat) (h : k + 3 ≤ s.size) : s.data.toList.drop k = s[k] :: s[k + 1] :: s[k + 2] :: s.data.toList.drop (k + 3) := by
  rw [drop_cons s k (by omega), drop_cons s (k + 1) (by omega), drop_cons s (k + 2) (by omega)]
theorem takK_early {s : ByteArray} {at_ : Int} (h : at_ < 0 ∨ (s.size : Int) - at_ < 3) : takK s at_ = none := by
  unfold takK
  by_cases h0 : at_ < 0
  · rw [if_pos h0]
  · rw [if_neg h0]
    have hl : (s.data.toList.drop at_.toNat).length < 3 := by rw [List.length_drop, Array.length_toList]; show s.size - at_.toNat < 3; omega
    split
    · rename_i p q n l e
      rw [e] at hl
      simp at hl
      omega
    · rfl
theorem takK_at {s : ByteArray} {k : Nat} (hk : k + 3 ≤ s.size) : takK s (k : Int) = if 64 < s[k + 2].toNat ∨ s.size < k + 3 + s[k + 2].toNat then none else some (((s[k].toNat : Int) + 256 * (s[k + 1].toNat : Int), s.extract (k + 3) (k + 3 + s[k + 2].toNat)), (k : Int) + 3 + (s[k + 2].toNat : Int)) := by
  unfold takK
  rw [if_neg (by omega), show ((k : Int)).toNat = k by omega, drop3 s k hk]
  simp only
  have hl : (s.data.toList.drop (k + 3)).length = s.size - (k + 3) := by rw [List.length_drop, Array.length_toList]; rfl
  rw [hl]
  have e : (⟨((s.data.toList.drop (k + 3)).take s[k + 2].toNat).toArray⟩ : ByteArray) = s.extract (k + 3) (k + 3 + s[k + 2].toNat) := str_eq (by rw [extract_data, List.drop_take]; congr 1; omega)
  rw [e]
  by_cases h : 64 < s[k + 2].toNat ∨ s.size < k + 3 + s[k + 2].toNat
  · rw [if_pos h, if_pos (by omega)]
  · rw [if_neg h, if_neg (by omega)]
theorem ktake_ (w : World) (s : ByteArray) (at_ : Int) (hs : s.size ≤ 281474976710656) (ha : at_ ≤ 9223372036854775807) : Calls Tryz.prog 130 #[.string s, .int .i64 at_] w fun e w' => e = .returned (takKV (takK s at_)) ∧ Touch [] w w' := by
  by_cases h : at_ < 0 ∨ (s.size : Int) - at_ < 3
  · rw [takK_early h]
    exact (take18_early s at_ w hs ha h).mono fun e w' ⟨h1, h2⟩ => ⟨h1, Touch.of_below h2⟩
  · obtain ⟨k, rfl⟩ : ∃ k : Nat, at_ = (k : Int) := ⟨at_.toNat, by omega⟩
    have hk : k + 3 ≤ s.size := by omega
    rw [takK_at hk]
    by_cases h2 : 64 < s[k + 2].toNat ∨ s.size < k + 3 + s[k + 2].toNat
    · rw [if_pos h2]
      exact (take18_late s k _ w hs hk rfl h2).mono fun e w' ⟨h1, h2⟩ => ⟨h1, Touch.of_below h2⟩
    · rw [if_neg h2]
      exact (take18_ok s k _ w hs hk rfl _ _ rfl rfl (by omega) (by omega)).mono fun e w' ⟨h1, h2⟩ => ⟨h1, Touch.of_below h2⟩
theorem takK_b {s : ByteArray} {at_ : Int} {k : K} {n : Int} (h : takK s at_ = some (k, n)) : 0 ≤ k.1 ∧ k.1 ≤ 65535 ∧ k.2.size ≤ 64 ∧ 0 ≤ at_ ∧ at_ + 3 ≤ n ∧ n ≤ s.size := by
  by_cases he : at_ < 0 ∨ (s.size : Int) - at_ < 3
  · rw [takK_early he] at h; cases h
  · obtain ⟨j, rfl⟩ : ∃ j : Nat, at_ = (j : Int) := ⟨at_.toNat, by omega⟩
    have hk : j + 3 ≤ s.size := by omega
    rw [takK_at hk] at h
    by_cases h2 : 64 < s[j + 2].toNat ∨ s.size < j + 3 + s[j + 2].toNat
    · rw [if_pos h2] at h; cases h
    · rw [if_neg h2] at h
      cases h
      have p1 : s[j].toNat < 256 := s[j].toNat_lt
      have q1 : s[j + 1].toNat < 256 := s[j + 1].toNat_lt
      refine ⟨by omega, by omega, ?_, by omega, by omega, by omega⟩
      show (s.extract (j + 3) (j + 3 + s[j + 2].toNat)).size ≤ 64
      rw [ByteArray.size_extract]
      omega
end Go.Proofs.YtpefbmheblfbeaaGreat.Sn
/- The contract of the program's reader for a key that stands not ahead already; the text's length is a number of the language's, the reader stands within the text. -/
namespace Go.Proofs.YtpefbmheblfbeaaGreat.Sn
open Go.RowKit Go.Sort Go.Shelf Go.Maps Go.ChangeMaps Me
set_option linter.unusedVariables false
set_option linter.unusedSimpArgs false
def zk : K := (0, ⟨#[]⟩)
def keyR (s : ByteArray) (x : Rd) (A : List K) : Rd × K :=
  match takK s x.at_ with
  | some (k, n) => if hs A k = true then (passS x n false, zk) else (passS x n true, if passB x true then k else zk)
  | none => (passS x 0 false, zk)
theorem any_ (w : World) (k : K) : Calls Tryz.prog 97 #[kv k] w fun e w' => e = .returned (.bool true) ∧ Touch [] w w' := by
  unfold kv
  go_enter Tryz.func97, Tryz.ntmps97
  go_wp2
  go_ret
  exact ⟨rfl, by repeat (first | exact Touch.refl _ _ | (refine Touch.alloc ?_ _))⟩
theorem takKV_parts (o : Option (K × Int)) : ∃ (kk : K) (nx : Int) (th : Bool), takKV o = .tuple #[.agg #[.int .u16 kk.1, .string kk.2], .int .i64 nx, .bool th] ∧ (th = true → o = some (kk, nx)) ∧ (th = false → o = none ∧ kk = zk ∧ nx = 0) := by
  cases o with
  | none => exact ⟨zk, 0, false, rfl, (fun h => by cases h), (fun _ => ⟨rfl, rfl, rfl⟩)⟩
  | some p => exact ⟨p.1, p.2, true, rfl, (fun _ => rfl), (fun h => by cases h)⟩
def Ah (w : World) (mb : Nat) (A : List K) : Prop := ∃ f : K → Option Value, Me.MapAt w mb A.length f ∧ (∀ k, Ok k → (f k).isSome = hs A k)
theorem zero3 (w : World) : (zeroValue 3).run Tryz.prog w = .ok (.int .i64 0) w := Tryz.zeroValue3 w
set_option maxHeartbeats 4000000 in
theorem key_r {w : World} {r mb : Nat} {s : ByteArray} {x : Rd} {A : List K} (h : Rq w r s x) (hm : Ah w mb A) (hi : Rin s x) (hs : s.size ≤ 140737488351232) (hA : A.length ≤ 65536) : Calls Tryz.prog 96 #[PT r, .map (some mb), .func (.func 97) #[] #[]] w fun e w' => e = .returned (kv (keyR s x A).2) ∧ Rq w' r s (keyR s x A).1 ∧ Touch [r, mb] w w' ∧ ((keyR s x A).1.er = 0 → Ah w' mb (A ++ [(keyR s x A).2])) := by
  obtain ⟨V, hV⟩ : ∃ V, V = w.alloc (.cells #[.int .u16 0, .string ⟨#[]⟩] 54) := ⟨_, rfl⟩
  have TV : Touch [] w V := by rw [hV]; exact (Touch.refl _ _).alloc _
  have hb : V.heap[w.heap.size]? = some (.cells #[.int .u16 0, .string ⟨#[]⟩] 54 (0, 0)) := by rw [hV]; exact heap_alloc_new w _
  have qV := h.keep0 TV
  obtain ⟨kk, nx, th, ht, ho1, ho2⟩ := takKV_parts (takK s x.at_)
  have HT := hid (fun w => ktake_ w s x.at_ (by omega) (by have := hi.2; omega))
  rw [ht] at HT
  have C0 : ∀ w' : World, w'.heap[r]? = some (.cells #[.string s, .int .i64 x.at_, .int .i64 x.er] 108 (0, 0)) → w'.cell? ⟨r, 0, none⟩ = some (.string s) := fun w' h => cell_at h rfl
  have C1 : ∀ w' : World, w'.heap[r]? = some (.cells #[.string s, .int .i64 x.at_, .int .i64 x.er] 108 (0, 0)) → w'.cell? ⟨r, 1, none⟩ = some (.int .i64 x.at_) := fun w' h => cell_at h rfl
  unfold Rq at qV
  unfold PT
  go_enter Tryz.func96, Tryz.ntmps96
  go_upto_region 1 with fail
  rw [← hV]
  go_cut [7, 8, 9] from 12 to 24 (fun a b c wx => ∃ kb, a = .pointer (some ⟨kb, 0, none⟩) ∧ b = .int .i64 nx ∧ c = .bool th ∧ Hid (wx.heap[kb]? = some (.cells #[.int .u16 kk.1, .string kk.2] 54 (0, 0)) ∧ Touch [] V wx ∧ V.heap.size ≤ kb))
  case first =>
    have s0 : V.drew.heap[r]? = some (.cells #[.string s, .int .i64 x.at_, .int .i64 x.er] 108 (0, 0)) := qV
    have T0 : Hid (Touch [] V V.drew) := hid (Touch.refl _ _).drew
    refine wp_region_H (S := fun w' => w'.heap[r]? = some (.cells #[.string s, .int .i64 x.at_, .int .i64 x.er] 108 (0, 0))) (by kernel_rfl) ?_
    generalize V.drew = Wd at *
    clear hV hb
    refine wpH_take (i := 0) (v := (.pointer (some ⟨r, 0, none⟩))) (some 13) rfl rfl (by kernel_rfl) (by kernel_rfl) (by kernel_rfl) (fun _ _ _ h => h) (Or.inl ⟨by rfl, fun w' hS => (by go_simp)⟩) s0 ?_
    try simp only [Go.Act.put, List.setIfInBounds_toArray, List.set_cons_zero, List.set_cons_succ]
    refine wpH_take (i := 1) (v := (.pointer (some ⟨r, 0, none⟩))) (some 14) rfl rfl (by kernel_rfl) (by kernel_rfl) (by kernel_rfl) (fun _ _ _ h => h) (Or.inl ⟨by rfl, fun w' hS => (by go_simp)⟩) s0 ?_
    try simp only [Go.Act.put, List.setIfInBounds_toArray, List.set_cons_zero, List.set_cons_succ]
    refine wpH_take (i := 2) (v := (.pointer (some ⟨r, 0, none⟩))) (some 15) rfl rfl (by kernel_rfl) (by kernel_rfl) (by kernel_rfl) (fun _ _ _ h => h) (Or.inl ⟨by rfl, fun w' hS => (by go_simp)⟩) s0 ?_
    try simp only [Go.Act.put, List.setIfInBounds_toArray, List.set_cons_zero, List.set_cons_succ]
    refine wpH_take (i := 3) (v := (.string s)) (some 16) rfl rfl (by kernel_rfl) (by kernel_rfl) (by kernel_rfl) (fun _ _ _ h => h) (Or.inl ⟨by rfl, fun w' hS => (by have z0 := C0 _ hS; go_simp)⟩) s0 ?_
    try simp only [Go.Act.put, List.setIfInBounds_toArray, List.set_cons_zero, List.set_cons_succ]
    refine wpH_take (i := 4) (v := (.pointer (some ⟨r, 0, none⟩))) (some 17) rfl rfl (by kernel_rfl) (by kernel_rfl) (by kernel_rfl) (fun _ _ _ h => h) (Or.inl ⟨by rfl, fun w' hS => (by go_simp)⟩) s0 ?_
    try simp only [Go.Act.put, List.setIfInBounds_toArray, List.set_cons_zero, List.set_cons_succ]
    refine wpH_take (i := 5) (v := (.pointer (some ⟨r, 0, none⟩))) (some 18) rfl rfl (by kernel_rfl) (by kernel_rfl) (by kernel_rfl) (fun _ _ _ h => h) (Or.inl ⟨by rfl, fun w' hS => (by go_simp)⟩) s0 ?_
    try simp only [Go.Act.put, List.setIfInBounds_toArray, List.set_cons_zero, List.set_cons_succ]
    refine wpH_take (i := 6) (v := (.pointer (some ⟨r, 1, none⟩))) (some 19) rfl rfl (by kernel_rfl) (by kernel_rfl) (by kernel_rfl) (fun _ _ _ h => h) (Or.inl ⟨by rfl, fun w' hS => (by go_simp)⟩) s0 ?_
    try simp only [Go.Act.put, List.setIfInBounds_toArray, List.set_cons_zero, List.set_cons_succ]
    refine wpH_take (i := 7) (v := (.int .i64 x.at_)) (some 20) rfl rfl (by kernel_rfl) (by kernel_rfl) (by kernel_rfl) (fun _ _ _ h => h) (Or.inl ⟨by rfl, fun w' hS => (by have z0 := C1 _ hS; go_simp)⟩) s0 ?_
    try simp only [Go.Act.put, List.setIfInBounds_toArray, List.set_cons_zero, List.set_cons_succ]
    refine wpH_ready (rs := [8, 13]) (by kernel_rfl) (by simp) ?_
    refine AllH.cons (o := { dst := some 21, op := Op.call { callee := Callee.value (Operand.func 130), args := #[Operand.tmp 16, Operand.tmp 20], argTypes := #[9, 3] }, type := 213, pos := _, after := #[{ on := 3, ground := Ground.data }, { on := 7, ground := Ground.data }], guard := none }) rfl (fun K' hK => ?_) ?_
    · rw [if_pos (by rfl)]
      go_simp
      refine (HT.out _).mono ?_
      rintro e v1 ⟨rfl, t1⟩
      have s1 := t1.keep s0 (by simp)
      have T1 := hid (T0.out.trans' t1)
      refine hK.out _ _ s1 ?_
      clear hK
      try simp only [Go.Act.put, List.setIfInBounds_toArray, List.set_cons_zero, List.set_cons_succ]
      refine wpH_take (i := 9) (v := (.tuple #[(.agg #[.int .u16 kk.1, .string kk.2]), (.int .i64 nx), (.bool th)])) (some 12) rfl rfl (by kernel_rfl) (by kernel_rfl) (by kernel_rfl) (fun _ _ _ h => h) (Or.inl ⟨by rfl, fun w' hS => (by go_simp)⟩) s1 ?_
      try simp only [Go.Act.put, List.setIfInBounds_toArray, List.set_cons_zero, List.set_cons_succ]
      refine wpH_take (i := 10) (v := (.agg #[.int .u16 kk.1, .string kk.2])) (some 22) rfl rfl (by kernel_rfl) (by kernel_rfl) (by kernel_rfl) (fun _ _ _ h => h) (Or.inl ⟨by rfl, fun w' hS => (by go_simp)⟩) s1 ?_
      try simp only [Go.Act.put, List.setIfInBounds_toArray, List.set_cons_zero, List.set_cons_succ]
      refine wpH_take (i := 11) (v := (.int .i64 nx)) (some 23) rfl rfl (by kernel_rfl) (by kernel_rfl) (by kernel_rfl) (fun _ _ _ h => h) (Or.inl ⟨by rfl, fun w' hS => (by go_simp)⟩) s1 ?_
      try simp only [Go.Act.put, List.setIfInBounds_toArray, List.set_cons_zero, List.set_cons_succ]
      refine wpH_take (i := 12) (v := (.bool th)) (some 24) rfl rfl (by kernel_rfl) (by kernel_rfl) (by kernel_rfl) (fun _ _ _ h => h) (Or.inl ⟨by rfl, fun w' hS => (by go_simp)⟩) s1 ?_
      try simp only [Go.Act.put, List.setIfInBounds_toArray, List.set_cons_zero, List.set_cons_succ]
      refine wpH_call (i := 13) (o := { dst := some 7, op := Op.alloc 54, type := 0, pos := _, after := #[], guard := none }) (by kernel_rfl) rfl (fun K' hK => ?_)
      rw [if_pos (by rfl)]
      go_simp
      have s2 := ((Touch.refl [] v1).alloc (.cells #[.int .u16 0, .string ⟨#[]⟩] 54)).keep s1 (by simp)
      have T2 := hid (T1.out.alloc (.cells #[.int .u16 0, .string ⟨#[]⟩] 54))
      have B2 := hid (heap_alloc_new v1 (.cells #[.int .u16 0, .string ⟨#[]⟩] 54))
      refine hK.out _ _ s2 ?_
      clear hK
      try simp only [Go.Act.put, List.setIfInBounds_toArray, List.set_cons_zero, List.set_cons_succ]
      refine wpH_call (i := 14) (o := { dst := none, op := Op.store 54 (Operand.tmp 7) (Operand.tmp 22), type := 0, pos := _, after := #[{ on := 13, ground := Ground.data }, { on := 10, ground := Ground.data }, { on := 8, ground := Ground.chain }, { on := 0, ground := Ground.phase }, { on := 1, ground := Ground.phase }, { on := 2, ground := Ground.phase }, { on := 3, ground := Ground.phase }, { on := 4, ground := Ground.phase }, { on := 5, ground := Ground.phase }, { on := 6, ground := Ground.phase }, { on := 7, ground := Ground.phase }, { on := 8, ground := Ground.phase }, { on := 9, ground := Ground.phase }, { on := 10, ground := Ground.phase }, { on := 11, ground := Ground.textOnly Departure.lateStores }, { on := 12, ground := Ground.textOnly Departure.lateStores }, { on := 13, ground := Ground.phase }], guard := none }) (by kernel_rfl) rfl (fun K' hK => ?_)
      rw [if_pos (by rfl)]
      have m0 := cell_of (n := 0) B2.out rfl
      have m1 := cell_of (n := 1) B2.out rfl
      have m2 := froz_at B2.out 0
      have m3 := froz_at B2.out 1
      go_simp
      clear m0 m1 m2 m3
      have B9 := hid (heap_alloc_new v1 (.cells #[.int .u16 kk.1, .string kk.2] 54))
      have T9 := hid (T1.out.alloc (.cells #[.int .u16 kk.1, .string kk.2] 54))
      have s9 : (v1.alloc (.cells #[.int .u16 kk.1, .string kk.2] 54)).heap[r]? = some (.cells #[.string s, .int .i64 x.at_, .int .i64 x.er] 108 (0, 0)) := T9.out.keep qV (by simp)
      refine hK.out _ _ s9 ?_
      clear hK
      try simp only [Go.Act.put, List.setIfInBounds_toArray, List.set_cons_zero, List.set_cons_succ]
      refine wpH_take (i := 15) (v := (.int .i64 nx)) (some 8) rfl rfl (by kernel_rfl) (by kernel_rfl) (by kernel_rfl) (fun _ _ _ h => h) (Or.inl ⟨by rfl, fun w' hS => (by go_simp)⟩) s9 ?_
      try simp only [Go.Act.put, List.setIfInBounds_toArray, List.set_cons_zero, List.set_cons_succ]
      refine wpH_take (i := 16) (v := (.bool th)) (some 9) rfl rfl (by kernel_rfl) (by kernel_rfl) (by kernel_rfl) (fun _ _ _ h => h) (Or.inl ⟨by rfl, fun w' hS => (by go_simp)⟩) s9 ?_
      try simp only [Go.Act.put, List.setIfInBounds_toArray, List.set_cons_zero, List.set_cons_succ]
      refine wpAnyH_done (by kernel_rfl) ?_ _
      go_wp2_with fail
      go_meet
      exact ⟨v1.heap.size, rfl, rfl, rfl, hid ⟨B9.out, T9.out, T1.out.size⟩⟩
    refine AllH.cons (o := { dst := some 7, op := Op.alloc 54, type := 0, pos := _, after := #[], guard := none }) rfl (fun K' hK => ?_) ?_
    · rw [if_pos (by rfl)]
      go_simp
      have s4 := ((Touch.refl [] Wd).alloc (.cells #[.int .u16 0, .string ⟨#[]⟩] 54)).keep s0 (by simp)
      have T4 := hid (T0.out.alloc (.cells #[.int .u16 0, .string ⟨#[]⟩] 54))
      have B4 := hid (heap_alloc_new Wd (.cells #[.int .u16 0, .string ⟨#[]⟩] 54))
      refine hK.out _ _ s4 ?_
      clear hK
      try simp only [Go.Act.put, List.setIfInBounds_toArray, List.set_cons_zero, List.set_cons_succ]
      refine wpH_call (i := 8) (o := { dst := some 21, op := Op.call { callee := Callee.value (Operand.func 130), args := #[Operand.tmp 16, Operand.tmp 20], argTypes := #[9, 3] }, type := 213, pos := _, after := #[{ on := 3, ground := Ground.data }, { on := 7, ground := Ground.data }], guard := none }) (by kernel_rfl) rfl (fun K' hK => ?_)
      rw [if_pos (by rfl)]
      go_simp
      refine (HT.out _).mono ?_
      rintro e v5 ⟨rfl, t5⟩
      have s5 := t5.keep s4 (by simp)
      have T5 := hid (T4.out.trans' t5)
      have B5 := hid (t5.keep B4.out (by simp))
      refine hK.out _ _ s5 ?_
      clear hK
      try simp only [Go.Act.put, List.setIfInBounds_toArray, List.set_cons_zero, List.set_cons_succ]
      refine wpH_take (i := 9) (v := (.tuple #[(.agg #[.int .u16 kk.1, .string kk.2]), (.int .i64 nx), (.bool th)])) (some 12) rfl rfl (by kernel_rfl) (by kernel_rfl) (by kernel_rfl) (fun _ _ _ h => h) (Or.inl ⟨by rfl, fun w' hS => (by go_simp)⟩) s5 ?_
      try simp only [Go.Act.put, List.setIfInBounds_toArray, List.set_cons_zero, List.set_cons_succ]
      refine wpH_take (i := 10) (v := (.agg #[.int .u16 kk.1, .string kk.2])) (some 22) rfl rfl (by kernel_rfl) (by kernel_rfl) (by kernel_rfl) (fun _ _ _ h => h) (Or.inl ⟨by rfl, fun w' hS => (by go_simp)⟩) s5 ?_
      try simp only [Go.Act.put, List.setIfInBounds_toArray, List.set_cons_zero, List.set_cons_succ]
      refine wpH_take (i := 11) (v := (.int .i64 nx)) (some 23) rfl rfl (by kernel_rfl) (by kernel_rfl) (by kernel_rfl) (fun _ _ _ h => h) (Or.inl ⟨by rfl, fun w' hS => (by go_simp)⟩) s5 ?_
      try simp only [Go.Act.put, List.setIfInBounds_toArray, List.set_cons_zero, List.set_cons_succ]
      refine wpH_take (i := 12) (v := (.bool th)) (some 24) rfl rfl (by kernel_rfl) (by kernel_rfl) (by kernel_rfl) (fun _ _ _ h => h) (Or.inl ⟨by rfl, fun w' hS => (by go_simp)⟩) s5 ?_
      try simp only [Go.Act.put, List.setIfInBounds_toArray, List.set_cons_zero, List.set_cons_succ]
      refine wpH_call (i := 14) (o := { dst := none, op := Op.store 54 (Operand.tmp 7) (Operand.tmp 22), type := 0, pos := _, after := #[{ on := 13, ground := Ground.data }, { on := 10, ground := Ground.data }, { on := 8, ground := Ground.chain }, { on := 0, ground := Ground.phase }, { on := 1, ground := Ground.phase }, { on := 2, ground := Ground.phase }, { on := 3, ground := Ground.phase }, { on := 4, ground := Ground.phase }, { on := 5, ground := Ground.phase }, { on := 6, ground := Ground.phase }, { on := 7, ground := Ground.phase }, { on := 8, ground := Ground.phase }, { on := 9, ground := Ground.phase }, { on := 10, ground := Ground.phase }, { on := 11, ground := Ground.textOnly Departure.lateStores }, { on := 12, ground := Ground.textOnly Departure.lateStores }, { on := 13, ground := Ground.phase }], guard := none }) (by kernel_rfl) rfl (fun K' hK => ?_)
      rw [if_pos (by rfl)]
      have m0 := cell_of (n := 0) B5.out rfl
      have m1 := cell_of (n := 1) B5.out rfl
      have m2 := froz_at B5.out 0
      have m3 := froz_at B5.out 1
      go_simp
      clear m0 m1 m2 m3
      have B9 := hid (bset (i := 1) (bset (i := 0) B5.out (.int .u16 kk.1)) (.string kk.2))
      have T9 := hid ((T5.out.setCell (p := ⟨Wd.heap.size, 0, none⟩) (Or.inr T0.out.size) (.int .u16 kk.1)).setCell (p := ⟨Wd.heap.size, 1, none⟩) (Or.inr T0.out.size) (.string kk.2))
      have s9 : ((v5.setCell ⟨Wd.heap.size, 0, none⟩ (.int .u16 kk.1)).setCell ⟨Wd.heap.size, 1, none⟩ (.string kk.2)).heap[r]? = some (.cells #[.string s, .int .i64 x.at_, .int .i64 x.er] 108 (0, 0)) := T9.out.keep qV (by simp)
      refine hK.out _ _ s9 ?_
      clear hK
      try simp only [Go.Act.put, List.setIfInBounds_toArray, List.set_cons_zero, List.set_cons_succ]
      refine wpH_take (i := 15) (v := (.int .i64 nx)) (some 8) rfl rfl (by kernel_rfl) (by kernel_rfl) (by kernel_rfl) (fun _ _ _ h => h) (Or.inl ⟨by rfl, fun w' hS => (by go_simp)⟩) s9 ?_
      try simp only [Go.Act.put, List.setIfInBounds_toArray, List.set_cons_zero, List.set_cons_succ]
      refine wpH_take (i := 16) (v := (.bool th)) (some 9) rfl rfl (by kernel_rfl) (by kernel_rfl) (by kernel_rfl) (fun _ _ _ h => h) (Or.inl ⟨by rfl, fun w' hS => (by go_simp)⟩) s9 ?_
      try simp only [Go.Act.put, List.setIfInBounds_toArray, List.set_cons_zero, List.set_cons_succ]
      refine wpAnyH_done (by kernel_rfl) ?_ _
      go_wp2_with fail
      go_meet
      exact ⟨Wd.heap.size, rfl, rfl, rfl, hid ⟨B9.out, T9.out, T0.out.size⟩⟩
    exact AllH.nil
  case rest =>
    obtain ⟨kb, rfl, rfl, rfl, HC⟩ := hcut
    obtain ⟨hbk, TX, hkl⟩ := HC.out
    obtain ⟨f, hf, hfa⟩ := hm
    have okk : Ok kk := by
      cases th with
      | true =>
        obtain ⟨a1, a2, a3, _⟩ := takK_b (ho1 rfl)
        exact ⟨by simp [Lit.wf, IntKind.min, IntKind.max, IntKind.signed, IntKind.bits]; omega, by unfold maxLen; omega⟩
      | false =>
        rw [(ho2 rfl).2.1]
        exact ⟨by decide, by decide⟩
    have tw : Touch [] w wc := TV.trans' TX
    have hf1 : Me.MapAt wc mb A.length f := hf.kept (tw.block mb hf.lt (by simp))
    have hlk := hf1.lookOk (t := 174) Tryz.underlying174 (zero3 wc) okk
    rw [hfa kk okk] at hlk
    unfold kv at hlk
    have k0 := cell_of (n := 0) hbk rfl
    have k1 := cell_of (n := 1) hbk rfl
    have ner : w.heap.size ≠ r := by have := h.lt; omega
    have HN : Hid (∀ w2, Rq w2 r s (keyR s x A).1 → Touch [r] wc w2 → ∀ W9, W9 = (w2.setCell ⟨w.heap.size, 0, none⟩ (.int .u16 0)).setCell ⟨w.heap.size, 1, none⟩ (.string ⟨#[]⟩) → W9.heap[w.heap.size]? = some (.cells #[.int .u16 0, .string ⟨#[]⟩] 54 (0, 0)) ∧ Rq W9 r s (keyR s x A).1 ∧ Touch [r, mb] w W9) := hid (fun w2 q2 t2 W9 h9 => by
      have b7 := boxT t2 (TX.keep hb (by simp)) ner
      have t9 : Touch [w.heap.size] w2 W9 := by rw [h9]; exact ((Touch.refl [w.heap.size] w2).setCell (p := ⟨w.heap.size, 0, none⟩) (Or.inl (by simp)) _).setCell (p := ⟨w.heap.size, 1, none⟩) (Or.inl (by simp)) _
      refine ⟨by rw [h9]; exact bset (i := 1) (bset (i := 0) b7 _) _, t9.keep q2 (by simpa using ner.symm), ?_⟩
      refine (tw.mono (G := [r, mb]) (by simp)).trans ((t2.mono (G := [r, w.heap.size]) (by simp)).trans' (t9.mono (by simp))) (fun k hk => ?_)
      simp at hk
      rcases hk with rfl | rfl
      · exact Or.inl (by simp)
      · exact Or.inr (Nat.le_refl _))
    have HAny := hid (fun w => any_ w kk)
    unfold kv at HAny
    cases th with
    | false =>
      obtain ⟨o1, o2, o3⟩ := ho2 rfl
      have eK : keyR s x A = (passS x nx false, zk) := by unfold keyR; rw [o1, o3]
      have HP : Hid (∀ w', Touch [] V w' → Calls Tryz.prog 92 #[.pointer (some ⟨r, 0, none⟩), .int .i64 nx, .bool false] w' fun e w'' => e = .returned (.bool false) ∧ Rq w'' r s (passS x nx false) ∧ Touch [r] w' w'') := hid (fun w' t => (pass_ (h.keep0 (TV.trans' t)) nx false).mono fun e w'' ⟨h1, h2⟩ => ⟨by rw [h1]; unfold passB; split <;> rfl, h2⟩)
      clear o1 o2 o3
      have HEN : Hid (¬ (keyR s x A).1.er = 0) := hid (by rw [eK]; unfold passS; split <;> simp_all)
      have HKE := hid eK
      clear eK ho1 ho2 hs hi hA
      go_wp2_with (go_at_call 92; refine (HP.out _ TX).mono ?_; rintro e w2 ⟨rfl, q2, t2⟩; have b7 := boxT t2 (TX.keep hb (by simp)) ner; have e0 := cell_of (n := 0) b7 rfl; have e1 := cell_of (n := 1) b7 rfl; have e2 := froz_at b7 0; have e3 := froz_at b7 1)
      obtain ⟨W9, hW9⟩ : ∃ W9, W9 = (w2.setCell ⟨w.heap.size, 0, none⟩ (.int .u16 0)).setCell ⟨w.heap.size, 1, none⟩ (.string ⟨#[]⟩) := ⟨_, rfl⟩
      obtain ⟨b8, q8, t8⟩ := HN.out w2 (by rw [HKE.out]; exact q2) t2 W9 hW9
      rw [← hW9]
      clear hW9 e0 e1 e2 e3
      have y0 : W9.cell? ⟨w.heap.size, 0, none⟩ = some (.int .u16 0) := cell_of b8 rfl
      have y1 : W9.cell? ⟨w.heap.size, 1, none⟩ = some (.string ⟨#[]⟩) := cell_of b8 rfl
      exact bodyPost_ret (v := .agg #[.int .u16 0, .string ⟨#[]⟩]) (by simp [results, Tryz.results96, go_sem, y0, y1]) rfl ⟨by rw [HKE.out]; rfl, q8, t8, fun he => absurd he HEN.out⟩
    | true =>
      have o1 := ho1 rfl
      cases htw : Me.hs A kk with
      | true =>
        have eK : keyR s x A = (passS x nx false, zk) := by unfold keyR; rw [o1]; simp only; rw [if_pos htw]
        have HP : Hid (∀ w', Touch [] V w' → Calls Tryz.prog 92 #[.pointer (some ⟨r, 0, none⟩), .int .i64 nx, .bool false] w' fun e w'' => e = .returned (.bool false) ∧ Rq w'' r s (passS x nx false) ∧ Touch [r] w' w'') := hid (fun w' t => (pass_ (h.keep0 (TV.trans' t)) nx false).mono fun e w'' ⟨h1, h2⟩ => ⟨by rw [h1]; unfold passB; split <;> rfl, h2⟩)
        rw [htw] at hlk
        clear o1
        have HEN : Hid (¬ (keyR s x A).1.er = 0) := hid (by rw [eK]; unfold passS; split <;> simp_all)
        have HKE := hid eK
        clear eK ho1 ho2 hs hi hA
        go_wp2_with (go_at_call 92; refine (HP.out _ TX).mono ?_; rintro e w2 ⟨rfl, q2, t2⟩; have b7 := boxT t2 (TX.keep hb (by simp)) ner; have e0 := cell_of (n := 0) b7 rfl; have e1 := cell_of (n := 1) b7 rfl; have e2 := froz_at b7 0; have e3 := froz_at b7 1)
        obtain ⟨W9, hW9⟩ : ∃ W9, W9 = (w2.setCell ⟨w.heap.size, 0, none⟩ (.int .u16 0)).setCell ⟨w.heap.size, 1, none⟩ (.string ⟨#[]⟩) := ⟨_, rfl⟩
        obtain ⟨b8, q8, t8⟩ := HN.out w2 (by rw [HKE.out]; exact q2) t2 W9 hW9
        rw [← hW9]
        clear hW9 e0 e1 e2 e3
        have y0 : W9.cell? ⟨w.heap.size, 0, none⟩ = some (.int .u16 0) := cell_of b8 rfl
        have y1 : W9.cell? ⟨w.heap.size, 1, none⟩ = some (.string ⟨#[]⟩) := cell_of b8 rfl
        exact bodyPost_ret (v := .agg #[.int .u16 0, .string ⟨#[]⟩]) (by simp [results, Tryz.results96, go_sem, y0, y1]) rfl ⟨by rw [HKE.out]; rfl, q8, t8, fun he => absurd he HEN.out⟩
      | false =>
        rw [htw] at hlk
        by_cases hx : x.er = 0
        · have eK : keyR s x A = (⟨nx, 0⟩, kk) := by
            unfold keyR; rw [o1]; simp only; rw [if_neg (by rw [htw]; simp)]
            have e1 : passB x true = true := by unfold passB; rw [if_neg (by simpa using hx)]
            have e2 : passS x nx true = ⟨nx, 0⟩ := by unfold passS; rw [if_neg (by simpa using hx), if_pos rfl]
            rw [e1, e2]; rfl
          have HP : Hid (∀ w', Touch [] V w' → Calls Tryz.prog 92 #[.pointer (some ⟨r, 0, none⟩), .int .i64 nx, .bool true] w' fun e w'' => e = .returned (.bool true) ∧ Rq w'' r s ⟨nx, 0⟩ ∧ Touch [r] w' w'') := hid (fun w' t => (pass_ (h.keep0 (TV.trans' t)) nx true).mono fun e w'' ⟨h1, h2⟩ => ⟨by rw [h1]; unfold passB; rw [if_neg (by simpa using hx)], by
            have e2 : passS x nx true = ⟨nx, 0⟩ := by unfold passS; rw [if_neg (by simpa using hx), if_pos rfl]
            rw [e2] at h2; exact h2⟩)
          have nmr : mb ≠ r := MapAt.ne_block hf h
          have nmb : mb ≠ w.heap.size := by have := hf.lt; omega
          have nkb : kb ≠ mb := by have := hf.lt; have := TV.size; omega
          have nkr : kb ≠ r := by have := h.lt; have := TV.size; omega
          have HMP : Hid (∀ w1 w2, Touch [] wc w1 → Touch [r] w1 w2 → ∃ ob, (Builtin.len_ #[174] 3 #[.map (some mb)]).run Tryz.prog w2 = .ok (.int .i64 (A.length : Int)) w2 ∧ (Instr.mapUpdate 174 (.map (some mb)) (kv kk) (.int .i64 (A.length : Int))).run Tryz.prog w2 = .ok () (setBlock w2 mb ob) ∧ Me.MapAt (setBlock w2 mb ob) mb (A.length + 1) (Me.upd f kk (.int .i64 (A.length : Int)))) := hid (fun w1 w2 s1 t2 => by
            have hf2 : Me.MapAt w2 mb A.length f := (hf1.kept (s1.block mb hf1.lt (by simp))).kept (t2.block mb (Nat.lt_of_lt_of_le hf1.lt s1.size) (by simpa using nmr))
            obtain ⟨ob, h1, h2⟩ := hf2.set (t := 174) Tryz.underlying174 (by unfold maxLen; omega) okk (.int .i64 (A.length : Int))
            rw [hfa kk okk, htw] at h2
            exact ⟨ob, hf2.len Tryz.underlying174 3, h1, h2⟩)
          have HAH : Hid (∀ W9, Me.MapAt W9 mb (A.length + 1) (Me.upd f kk (.int .i64 (A.length : Int))) → Ah W9 mb (A ++ [kk])) := hid (fun W9 hm9 => ⟨_, by rw [List.length_append]; exact hm9, fun j hj => by
            unfold Me.upd
            by_cases hjk : j = kk
            · rw [if_pos hjk, hjk]
              exact (hs_yes (by simp)).symm
            · rw [if_neg hjk, hfa j hj]
              unfold Me.hs
              rw [List.any_append]
              simp [Ne.symm hjk]⟩)
          unfold kv at HMP
          have HKE := hid eK
          have HTW := hid tw
          clear eK ho1 ho2 hs hi hA o1 HN
          go_wp2_with (first
            | (go_at_call 97; refine (HAny.out _).mono ?_; rintro e w1 ⟨rfl, s1⟩; have U1 : Touch [] V w1 := TX.trans' s1)
            | (go_at_call 92; refine (HP.out _ U1).mono ?_; rintro e w2 ⟨rfl, q2, t2⟩; obtain ⟨ob, hln, hup, hm2⟩ := HMP.out w1 w2 s1 t2; have b7 := boxT t2 (U1.keep hb (by simp)) ner; have c7 := boxT t2 (s1.keep hbk (by simp)) nkr; have b8 : (setBlock w2 mb ob).heap[w.heap.size]? = _ := (setBlock_other w2 mb ob nmb.symm).trans b7; have c8 : (setBlock w2 mb ob).heap[kb]? = _ := (setBlock_other w2 mb ob nkb).trans c7; have d0 := cell_of (n := 0) c7 rfl; have d1 := cell_of (n := 1) c7 rfl; have e0 := cell_of (n := 0) b8 rfl; have e1 := cell_of (n := 1) b8 rfl; have e2 := froz_at b8 0; have e3 := froz_at b8 1; have d2 := cell_of (n := 0) c8 rfl; have d3 := cell_of (n := 1) c8 rfl))
          obtain ⟨W9, hW9⟩ : ∃ W9, W9 = ((setBlock w2 mb ob).setCell ⟨w.heap.size, 0, none⟩ (.int .u16 kk.1)).setCell ⟨w.heap.size, 1, none⟩ (.string kk.2) := ⟨_, rfl⟩
          rw [← hW9]
          have t9 : Touch [w.heap.size] (setBlock w2 mb ob) W9 := by rw [hW9]; exact ((Touch.refl [w.heap.size] (setBlock w2 mb ob)).setCell (p := ⟨w.heap.size, 0, none⟩) (Or.inl (by simp)) _).setCell (p := ⟨w.heap.size, 1, none⟩) (Or.inl (by simp)) _
          have b9 : W9.heap[w.heap.size]? = some (.cells #[.int .u16 kk.1, .string kk.2] 54 (0, 0)) := by rw [hW9]; exact bset (i := 1) (bset (i := 0) b8 _) _
          have q9 : Rq W9 r s ⟨nx, 0⟩ := t9.keep ((setBlock_other w2 mb ob nmr.symm).trans q2) (by simpa using ner.symm)
          have m9 := HAH.out W9 (hm2.kept (t9.block mb hm2.lt (by simpa using nmb)))
          have t8 : Touch [r, mb] w W9 := (HTW.out.mono (G := [r, mb]) (by simp)).trans ((s1.mono (G := [r, mb, w.heap.size]) (by simp)).trans' ((touch_setBlock (t2.mono (G := [r, mb, w.heap.size]) (by simp)) (Or.inl (by simp)) ob).trans' (t9.mono (by simp)))) (fun k hk => by
            simp at hk
            rcases hk with rfl | rfl | rfl
            · exact Or.inl (by simp)
            · exact Or.inl (by simp)
            · exact Or.inr (Nat.le_refl _))
          clear hW9 e0 e1 e2 e3 d0 d1 d2 d3 hln hup hm2 b8 c8 b7 c7
          have y0 : W9.cell? ⟨w.heap.size, 0, none⟩ = some (.int .u16 kk.1) := cell_of b9 rfl
          have y1 : W9.cell? ⟨w.heap.size, 1, none⟩ = some (.string kk.2) := cell_of b9 rfl
          exact bodyPost_ret (v := .agg #[.int .u16 kk.1, .string kk.2]) (by simp [results, Tryz.results96, go_sem, y0, y1]) rfl ⟨by rw [HKE.out]; rfl, by rw [HKE.out]; exact q9, t8, fun _ => by rw [HKE.out]; exact m9⟩
        · have eK : keyR s x A = (passS x nx true, zk) := by
            unfold keyR; rw [o1]; simp only; rw [if_neg (by rw [htw]; simp)]
            have : passB x true = false := by unfold passB; rw [if_pos hx]
            rw [this]; rfl
          have HP : Hid (∀ w', Touch [] V w' → Calls Tryz.prog 92 #[.pointer (some ⟨r, 0, none⟩), .int .i64 nx, .bool true] w' fun e w'' => e = .returned (.bool false) ∧ Rq w'' r s (passS x nx true) ∧ Touch [r] w' w'') := hid (fun w' t => (pass_ (h.keep0 (TV.trans' t)) nx true).mono fun e w'' ⟨h1, h2⟩ => ⟨by rw [h1]; unfold passB; rw [if_pos hx], h2⟩)
          clear o1
          have HEN : Hid (¬ (keyR s x A).1.er = 0) := hid (by rw [eK]; unfold passS; rw [if_pos hx]; exact hx)
          have HKE := hid eK
          clear eK ho1 ho2 hs hi hA
          go_wp2_with (first | (go_at_call 97; refine (HAny.out _).mono ?_; rintro e w1 ⟨rfl, s1⟩; have U1 : Touch [] V w1 := TX.trans' s1) | (go_at_call 92; refine (HP.out _ U1).mono ?_; rintro e w2 ⟨rfl, q2, t2⟩; have b7 := boxT t2 (U1.keep hb (by simp)) ner; have e0 := cell_of (n := 0) b7 rfl; have e1 := cell_of (n := 1) b7 rfl; have e2 := froz_at b7 0; have e3 := froz_at b7 1))
          obtain ⟨W9, hW9⟩ : ∃ W9, W9 = (w2.setCell ⟨w.heap.size, 0, none⟩ (.int .u16 0)).setCell ⟨w.heap.size, 1, none⟩ (.string ⟨#[]⟩) := ⟨_, rfl⟩
          obtain ⟨b8, q8, t8⟩ := HN.out w2 (by rw [HKE.out]; exact q2) (((Touch.refl [r] wc).trans' (s1.mono (by simp))).trans' t2) W9 hW9
          rw [← hW9]
          clear hW9 e0 e1 e2 e3
          have y0 : W9.cell? ⟨w.heap.size, 0, none⟩ = some (.int .u16 0) := cell_of b8 rfl
          have y1 : W9.cell? ⟨w.heap.size, 1, none⟩ = some (.string ⟨#[]⟩) := cell_of b8 rfl
          exact bodyPost_ret (v := .agg #[.int .u16 0, .string ⟨#[]⟩]) (by simp [results, Tryz.results96, go_sem, y0, y1]) rfl ⟨by rw [HKE.out]; rfl, q8, t8, fun he => absurd he HEN.out⟩
end Go.Proofs.YtpefbmheblfbeaaGreat.Sn
