/- The contracts of the program's reader: signed, and a configuration; the text's length is a number of the language's, the reader stands within the text. -/
import Derived.Test.YtpefbmheblfbeaaGreatQb05
namespace Go.Proofs.YtpefbmheblfbeaaGreat.Sn
open Go.RowKit Go.Sort Go.Shelf Me
set_option linter.unusedVariables false
set_option linter.unusedSimpArgs false
theorem sigR_pass (s : ByteArray) (x : Rd) : ∃ (n nx : Int) (th : Bool), takeV x.at_ (takeAt s x.at_) = .tuple #[.int .u64 n, .int .i64 nx, .bool th] ∧ 0 ≤ n ∧ n < 18446744073709551616 ∧ (sigR s x).1 = passS x nx th ∧ (sigR s x).2 = if passB x th then uns n else 0 := by
  obtain ⟨n, nx, th, h1, h2, h3, h4, h5⟩ := numR_pass s x 0 18446744073709551615
  have e : (th && (decide ((0 : Int) ≤ n) && decide (n ≤ 18446744073709551615))) = th := by rw [decide_eq_true h2, decide_eq_true (by omega)]; simp
  rw [e] at h4 h5
  refine ⟨n, nx, th, h1, h2, h3, h4, ?_⟩
  unfold sigR
  simp only
  rw [h5]
  split
  · rfl
  · rfl
set_option maxHeartbeats 4000000 in
theorem signed_r {w : World} {r : Nat} {s : ByteArray} {x : Rd} (h : Rq w r s x) (hi : Rin s x) (hs : s.size ≤ 140737488351232) : Calls Tryz.prog 132 #[PT r] w fun e w' => e = .returned (.int .i64 (sigR s x).2) ∧ Rq w' r s (sigR s x).1 ∧ Touch [r] w w' := by
  obtain ⟨n, nx, th, ht, n0, n1, e1, e2⟩ := sigR_pass s x
  rw [e1, e2]
  clear e1 e2
  have HT : Hid (∀ w', Calls Tryz.prog 28 #[.string s, .int .i64 x.at_] w' fun e w'' => e = .returned (.tuple #[.int .u64 n, .int .i64 nx, .bool th]) ∧ Touch [] w' w'') := hid (fun w' => (take_ w' s x.at_ (by omega) (by have := hi.1; omega) (by have := hi.2; omega)).mono fun e w'' ⟨h1, h2⟩ => ⟨by rw [h1, ht], by rw [h2]; exact Touch.refl _ _⟩)
  have C0 : ∀ w', Touch [] w w' → w'.cell? ⟨r, 0, none⟩ = some (.string s) := fun w' t => cell_at (t.keep h (by simp)) rfl
  have C1 : ∀ w', Touch [] w w' → w'.cell? ⟨r, 1, none⟩ = some (.int .i64 x.at_) := fun w' t => cell_at (t.keep h (by simp)) rfl
  have HK := hid (fun w' (t : Touch [] w w') => pass_ (h.keep0 t) nx th)
  have HU := hid (fun w => unsign_ w n n0 n1)
  generalize passB x th = B at *
  generalize passS x nx th = S' at *
  have zz := h.lt
  clear h hi hs ht n0 n1
  unfold PT at *
  go_enter Tryz.func132, Tryz.ntmps132
  go_upto_region 1 with fail
  go_cut [3, 4, 5] from 6 to 18 (fun a b c wx => a = .int .u64 n ∧ b = .int .i64 nx ∧ c = .bool th ∧ Touch [] w wx)
  case first =>
    go_region_held3 (fun w' => Touch [] w w') (first | assumption | exact (Touch.refl _ _).drew | exact Touch.refl _ _ | exact Touch.drew (by assumption))
      (first | (go_at_call 28; refine (HT.out _).mono ?_; rintro e w1 ⟨rfl, t1⟩; have T1 : Touch [] w w1 := Touch.trans' (by assumption) t1; clear t1))
    all_goals
      go_wp2_with fail
      go_meet
      exact ⟨rfl, rfl, rfl, by assumption⟩
  case rest =>
    obtain ⟨rfl, rfl, rfl, TX⟩ := hcut
    clear C0 C1 HT
    cases B with
    | false =>
      go_wp2_with (go_at_call 92; refine (HK.out _ TX).mono ?_; rintro e w2 ⟨rfl, q2, t2⟩)
      go_ret
      exact ⟨rfl, q2, touch_r TX t2⟩
    | true =>
      go_wp2_with (first
        | (go_at_call 92; refine (HK.out _ TX).mono ?_; rintro e w2 ⟨rfl, q2, t2⟩)
        | (go_at_call 146; refine (HU.out _).mono ?_; rintro e w3 ⟨rfl, rfl⟩))
      go_ret
      exact ⟨rfl, q2, touch_r TX t2⟩
theorem Rin.sig {s : ByteArray} {x : Rd} (h : Rin s x) : Rin s (sigR s x).1 := h.num _ _
end Go.Proofs.YtpefbmheblfbeaaGreat.Sn
/- The contracts of the program's reader: what the bytes begin with, a sum, the end; the text's length is a number of the language's, the reader stands within the text. -/
namespace Go.Proofs.YtpefbmheblfbeaaGreat.Sn
open Go.RowKit Go.Sort Go.Shelf Me
set_option linter.unusedVariables false
set_option linter.unusedSimpArgs false
def prefB (l m : List UInt8) : Bool := decide (l.take m.length = m)
theorem prefB_short {l m : List UInt8} (h : l.length < m.length) : prefB l m = false := by
  unfold prefB
  refine decide_eq_false (fun e => ?_)
  have := congrArg List.length e
  rw [List.length_take] at this
  omega
set_option maxHeartbeats 1000000 in
theorem hplite_ (w : World) (a p : ByteArray) (ha : a.size ≤ 9223372036854775807) : Calls Tryz.prog 129 #[.string a, .string p] w fun e w' => e = .returned (.bool (prefB a.data.toList p.data.toList)) ∧ w' = w := by
  have ea : a.data.toList.length = a.size := by simp
  have ep : p.data.toList.length = p.size := by simp
  by_cases h : p.size ≤ a.size
  · have hz : (p.size : Int) ≤ (a.size : Int) := by omega
    have z0 : (0 : Int) ≤ (p.size : Int) := by omega
    have sl : ∀ w, (Instr.slice 9 (.string a) none (some (.int .i64 (p.size : Int))) none).run Tryz.prog w = .ok (.string (a.extract 0 p.size)) w := fun w => by go_simp
    have e : (((a.extract 0 p.size).toList == p.toList) : Bool) = prefB a.data.toList p.data.toList := by
      unfold prefB
      rw [Bool.eq_iff_iff, beq_iff_eq, decide_eq_true_eq, ByteArray.toList_eq, ByteArray.toList_eq, extract_data, List.drop_zero, ep]
    generalize prefB a.data.toList p.data.toList = R at *
    clear ea ep ha
    go_enter Tryz.func129, Tryz.ntmps129
    go_wp2
    go_ret
    exact ⟨by rw [← e]; rfl, rfl⟩
  · have hz : ¬ (p.size : Int) ≤ (a.size : Int) := by omega
    rw [prefB_short (by omega)]
    clear ea ep ha
    go_enter Tryz.func129, Tryz.ntmps129
    go_wp2
    go_ret
    exact ⟨rfl, rfl⟩
theorem hp_ (w : World) (a p : ByteArray) (ha : a.size ≤ 9223372036854775807) : Calls Tryz.prog 93 #[.string a, .string p] w fun e w' => e = .returned (.bool (prefB a.data.toList p.data.toList)) ∧ Touch [] w w' := by
  have H := hid (hplite_ w a p ha)
  clear ha
  go_enter Tryz.func93, Tryz.ntmps93
  go_wp2_with (go_at_call 129; refine H.out.mono ?_; rintro e w1 ⟨rfl, rfl⟩)
  go_ret
  exact ⟨rfl, Touch.refl _ _⟩
def markR (s : ByteArray) (x : Rd) (m : List UInt8) : Rd := passS x (x.at_ + m.length) (prefB (s.data.toList.drop x.at_.toNat) m)
set_option maxHeartbeats 4000000 in
theorem mark_r {w : World} {r : Nat} {s : ByteArray} {x : Rd} (h : Rq w r s x) (hi : Rin s x) (hs : s.size ≤ 140737488351232) (m : ByteArray) (hm : m.size ≤ 100) : Calls Tryz.prog 44 #[PT r, .string m] w fun e w' => e = .returned (.tuple #[]) ∧ Rq w' r s (markR s x m.data.toList) ∧ Touch [r] w w' := by
  obtain ⟨k, hk⟩ : ∃ k : Nat, x.at_ = (k : Int) := ⟨x.at_.toNat, by have := hi.1; omega⟩
  have hks : k ≤ s.size := by have := hi.2; omega
  have em : (m.data.toList.length : Int) = (m.size : Int) := by simp
  have hes : (s.extract k s.size).data.toList = s.data.toList.drop k := by rw [extract_data, List.take_of_length_le (by simp)]
  have HH := hid (fun w => hp_ w (s.extract k s.size) m (by rw [ByteArray.size_extract]; omega))
  rw [hes] at HH
  have HP := hid (fun w' (t : Touch [] w w') => pass_ (h.keep0 t) ((k : Int) + (m.size : Int)) (prefB (s.data.toList.drop k) m.data.toList))
  have eR : markR s x m.data.toList = passS x ((k : Int) + (m.size : Int)) (prefB (s.data.toList.drop k) m.data.toList) := by unfold markR; rw [hk, em]; rfl
  rw [eR]
  have C0 : ∀ w', Touch [] w w' → w'.cell? ⟨r, 0, none⟩ = some (.string s) := fun w' t => cell_at (t.keep h (by simp)) rfl
  have C1 : ∀ w', Touch [] w w' → w'.cell? ⟨r, 1, none⟩ = some (.int .i64 (k : Int)) := fun w' t => by rw [← hk]; exact cell_at (t.keep h (by simp)) rfl
  have z0 : (0 : Int) ≤ (k : Int) := by omega
  have z1 : (k : Int) ≤ (s.size : Int) := by omega
  have sl : ∀ w, (Instr.slice 9 (.string s) (some (.int .i64 (k : Int))) none none).run Tryz.prog w = .ok (.string (s.extract k s.size)) w := fun w => by go_simp
  have wk : IntKind.i64.wrap ((k : Int) + (m.size : Int)) = (k : Int) + (m.size : Int) := by rw [IntKind.wrap_i64]; omega
  have zz := h.lt
  generalize passS x ((k : Int) + (m.size : Int)) (prefB (s.data.toList.drop k) m.data.toList) = S' at *
  generalize passB x (prefB (s.data.toList.drop k) m.data.toList) = B' at *
  generalize prefB (s.data.toList.drop k) m.data.toList = P' at *
  clear eR hes em hk hi h hs hm hks
  unfold PT at *
  go_enter Tryz.func44, Tryz.ntmps44
  have s0 : Touch [] w w.drew := (Touch.refl _ _).drew
  refine wp_region_H (S := fun _ => True) (by kernel_rfl) ?_
  generalize w.drew = Wd at *
  refine wpH_take (i := 0) (v := (.pointer (some ⟨r, 0, none⟩))) (some 4) rfl rfl (by kernel_rfl) (by kernel_rfl) (by kernel_rfl) (fun _ _ _ h => h) (Or.inl ⟨by rfl, fun w' hS => (by go_simp)⟩) trivial ?_
  try simp only [Go.Act.put, List.setIfInBounds_toArray, List.set_cons_zero, List.set_cons_succ]
  refine wpH_take (i := 1) (v := (.pointer (some ⟨r, 0, none⟩))) (some 5) rfl rfl (by kernel_rfl) (by kernel_rfl) (by kernel_rfl) (fun _ _ _ h => h) (Or.inl ⟨by rfl, fun w' hS => (by go_simp)⟩) trivial ?_
  try simp only [Go.Act.put, List.setIfInBounds_toArray, List.set_cons_zero, List.set_cons_succ]
  refine wpH_take (i := 2) (v := (.pointer (some ⟨r, 0, none⟩))) (some 6) rfl rfl (by kernel_rfl) (by kernel_rfl) (by kernel_rfl) (fun _ _ _ h => h) (Or.inl ⟨by rfl, fun w' hS => (by go_simp)⟩) trivial ?_
  try simp only [Go.Act.put, List.setIfInBounds_toArray, List.set_cons_zero, List.set_cons_succ]
  refine wpH_take (i := 3) (v := (.pointer (some ⟨r, 1, none⟩))) (some 7) rfl rfl (by kernel_rfl) (by kernel_rfl) (by kernel_rfl) (fun _ _ _ h => h) (Or.inl ⟨by rfl, fun w' hS => (by go_simp)⟩) trivial ?_
  try simp only [Go.Act.put, List.setIfInBounds_toArray, List.set_cons_zero, List.set_cons_succ]
  refine wpH_take (i := 5) (v := (.string m)) (some 9) rfl rfl (by kernel_rfl) (by kernel_rfl) (by kernel_rfl) (fun _ _ _ h => h) (Or.inl ⟨by rfl, fun w' hS => (by go_simp)⟩) trivial ?_
  try simp only [Go.Act.put, List.setIfInBounds_toArray, List.set_cons_zero, List.set_cons_succ]
  refine wpH_take (i := 6) (v := (.int .i64 (m.size : Int))) (some 10) rfl rfl (by kernel_rfl) (by kernel_rfl) (by kernel_rfl) (fun _ _ _ h => h) (Or.inl ⟨by rfl, fun w' hS => (by go_simp)⟩) trivial ?_
  try simp only [Go.Act.put, List.setIfInBounds_toArray, List.set_cons_zero, List.set_cons_succ]
  refine wpH_take (i := 8) (v := (.pointer (some ⟨r, 0, none⟩))) (some 12) rfl rfl (by kernel_rfl) (by kernel_rfl) (by kernel_rfl) (fun _ _ _ h => h) (Or.inl ⟨by rfl, fun w' hS => (by go_simp)⟩) trivial ?_
  try simp only [Go.Act.put, List.setIfInBounds_toArray, List.set_cons_zero, List.set_cons_succ]
  refine wpH_take (i := 9) (v := (.pointer (some ⟨r, 0, none⟩))) (some 13) rfl rfl (by kernel_rfl) (by kernel_rfl) (by kernel_rfl) (fun _ _ _ h => h) (Or.inl ⟨by rfl, fun w' hS => (by go_simp)⟩) trivial ?_
  try simp only [Go.Act.put, List.setIfInBounds_toArray, List.set_cons_zero, List.set_cons_succ]
  refine wpH_take (i := 10) (v := (.pointer (some ⟨r, 0, none⟩))) (some 14) rfl rfl (by kernel_rfl) (by kernel_rfl) (by kernel_rfl) (fun _ _ _ h => h) (Or.inl ⟨by rfl, fun w' hS => (by go_simp)⟩) trivial ?_
  try simp only [Go.Act.put, List.setIfInBounds_toArray, List.set_cons_zero, List.set_cons_succ]
  refine wpH_take (i := 12) (v := (.pointer (some ⟨r, 0, none⟩))) (some 16) rfl rfl (by kernel_rfl) (by kernel_rfl) (by kernel_rfl) (fun _ _ _ h => h) (Or.inl ⟨by rfl, fun w' hS => (by go_simp)⟩) trivial ?_
  try simp only [Go.Act.put, List.setIfInBounds_toArray, List.set_cons_zero, List.set_cons_succ]
  refine wpH_take (i := 13) (v := (.pointer (some ⟨r, 0, none⟩))) (some 17) rfl rfl (by kernel_rfl) (by kernel_rfl) (by kernel_rfl) (fun _ _ _ h => h) (Or.inl ⟨by rfl, fun w' hS => (by go_simp)⟩) trivial ?_
  try simp only [Go.Act.put, List.setIfInBounds_toArray, List.set_cons_zero, List.set_cons_succ]
  refine wpH_take (i := 14) (v := (.pointer (some ⟨r, 1, none⟩))) (some 18) rfl rfl (by kernel_rfl) (by kernel_rfl) (by kernel_rfl) (fun _ _ _ h => h) (Or.inl ⟨by rfl, fun w' hS => (by go_simp)⟩) trivial ?_
  try simp only [Go.Act.put, List.setIfInBounds_toArray, List.set_cons_zero, List.set_cons_succ]
  refine wpH_take (i := 17) (v := (.string m)) (some 21) rfl rfl (by kernel_rfl) (by kernel_rfl) (by kernel_rfl) (fun _ _ _ h => h) (Or.inl ⟨by rfl, fun w' hS => (by go_simp)⟩) trivial ?_
  try simp only [Go.Act.put, List.setIfInBounds_toArray, List.set_cons_zero, List.set_cons_succ]
  refine wpH_ready (rs := [4, 11, 15]) (by kernel_rfl) (by simp) ?_
  refine AllH.cons (o := { dst := some 8, op := Op.load 3 (Operand.tmp 7), type := 3, pos := _, after := #[{ on := 3, ground := Ground.data }], guard := none }) rfl (fun K' hK => ?_) ?_
  · rw [if_pos (by rfl)]
    have z1 := C1 _ s0
    go_simp
    clear z1
    refine hK.out _ _ trivial ?_
    clear hK
    try simp only [Go.Act.put, List.setIfInBounds_toArray, List.set_cons_zero, List.set_cons_succ]
    refine wpH_take (i := 7) (v := (.int .i64 ((k : Int) + (m.size : Int)))) (some 11) rfl rfl (by kernel_rfl) (by kernel_rfl) (by kernel_rfl) (fun _ _ _ h => h) (Or.inl ⟨by rfl, fun w' hS => (by go_simp)⟩) trivial ?_
    try simp only [Go.Act.put, List.setIfInBounds_toArray, List.set_cons_zero, List.set_cons_succ]
    refine wpH_ready (rs := [11, 15]) (by kernel_rfl) (by simp) ?_
    refine AllH.cons (o := { dst := some 15, op := Op.load 9 (Operand.tmp 14), type := 9, pos := _, after := #[{ on := 10, ground := Ground.data }], guard := none }) rfl (fun K' hK => ?_) ?_
    · rw [if_pos (by rfl)]
      have z2 := C0 _ s0
      go_simp
      clear z2
      refine hK.out _ _ trivial ?_
      clear hK
      try simp only [Go.Act.put, List.setIfInBounds_toArray, List.set_cons_zero, List.set_cons_succ]
      refine wpH_call (i := 15) (o := { dst := some 19, op := Op.load 3 (Operand.tmp 18), type := 3, pos := _, after := #[{ on := 14, ground := Ground.data }], guard := none }) (by kernel_rfl) rfl (fun K' hK => ?_)
      rw [if_pos (by rfl)]
      have z3 := C1 _ s0
      go_simp
      clear z3
      refine hK.out _ _ trivial ?_
      clear hK
      try simp only [Go.Act.put, List.setIfInBounds_toArray, List.set_cons_zero, List.set_cons_succ]
      refine wpH_take (i := 16) (v := (.string (s.extract k s.size))) (some 20) rfl rfl (by kernel_rfl) (by kernel_rfl) (by kernel_rfl) (fun _ _ _ h => h) (Or.inl ⟨by rfl, fun w' hS => (by go_simp)⟩) trivial ?_
      try simp only [Go.Act.put, List.setIfInBounds_toArray, List.set_cons_zero, List.set_cons_succ]
      refine wpH_call (i := 18) (o := { dst := some 22, op := Op.call { callee := Callee.value (Operand.func 93), args := #[Operand.tmp 20, Operand.tmp 21], argTypes := #[9, 9] }, type := 4, pos := _, after := #[{ on := 16, ground := Ground.data }, { on := 17, ground := Ground.data }], guard := none }) (by kernel_rfl) rfl (fun K' hK => ?_)
      rw [if_pos (by rfl)]
      go_simp
      refine (HH.out _).mono ?_
      rintro e v4 ⟨rfl, t4⟩
      have s4 : Touch [] w v4 := s0.trans' t4
      refine hK.out _ _ trivial ?_
      clear hK
      try simp only [Go.Act.put, List.setIfInBounds_toArray, List.set_cons_zero, List.set_cons_succ]
      refine wpH_call (i := 19) (o := { dst := some 23, op := Op.call { callee := Callee.value (Operand.func 92), args := #[Operand.tmp 4, Operand.tmp 11, Operand.tmp 22], argTypes := #[106, 3, 4] }, type := 4, pos := _, after := #[{ on := 0, ground := Ground.data }, { on := 7, ground := Ground.data }, { on := 18, ground := Ground.data }, { on := 18, ground := Ground.chain }], guard := none }) (by kernel_rfl) rfl (fun K' hK => ?_)
      rw [if_pos (by rfl)]
      go_simp
      refine (HP.out _ s4).mono ?_
      rintro e v5 ⟨rfl, q2, t2⟩
      have Q2 := hid (And.intro q2 (touch_r s4 t2))
      refine hK.out _ _ trivial ?_
      clear hK
      try simp only [Go.Act.put, List.setIfInBounds_toArray, List.set_cons_zero, List.set_cons_succ]
      refine wpAnyH_done (by kernel_rfl) ?_ _
      go_wp2_with fail
      go_end0
      exact ⟨rfl, Q2.out⟩
    refine AllH.cons (o := { dst := some 19, op := Op.load 3 (Operand.tmp 18), type := 3, pos := _, after := #[{ on := 14, ground := Ground.data }], guard := none }) rfl (fun K' hK => ?_) ?_
    · rw [if_pos (by rfl)]
      have z6 := C1 _ s0
      go_simp
      clear z6
      refine hK.out _ _ trivial ?_
      clear hK
      try simp only [Go.Act.put, List.setIfInBounds_toArray, List.set_cons_zero, List.set_cons_succ]
      refine wpH_call (i := 11) (o := { dst := some 15, op := Op.load 9 (Operand.tmp 14), type := 9, pos := _, after := #[{ on := 10, ground := Ground.data }], guard := none }) (by kernel_rfl) rfl (fun K' hK => ?_)
      rw [if_pos (by rfl)]
      have z7 := C0 _ s0
      go_simp
      clear z7
      refine hK.out _ _ trivial ?_
      clear hK
      try simp only [Go.Act.put, List.setIfInBounds_toArray, List.set_cons_zero, List.set_cons_succ]
      refine wpH_take (i := 16) (v := (.string (s.extract k s.size))) (some 20) rfl rfl (by kernel_rfl) (by kernel_rfl) (by kernel_rfl) (fun _ _ _ h => h) (Or.inl ⟨by rfl, fun w' hS => (by go_simp)⟩) trivial ?_
      try simp only [Go.Act.put, List.setIfInBounds_toArray, List.set_cons_zero, List.set_cons_succ]
      refine wpH_call (i := 18) (o := { dst := some 22, op := Op.call { callee := Callee.value (Operand.func 93), args := #[Operand.tmp 20, Operand.tmp 21], argTypes := #[9, 9] }, type := 4, pos := _, after := #[{ on := 16, ground := Ground.data }, { on := 17, ground := Ground.data }], guard := none }) (by kernel_rfl) rfl (fun K' hK => ?_)
      rw [if_pos (by rfl)]
      go_simp
      refine (HH.out _).mono ?_
      rintro e v8 ⟨rfl, t8⟩
      have s8 : Touch [] w v8 := s0.trans' t8
      refine hK.out _ _ trivial ?_
      clear hK
      try simp only [Go.Act.put, List.setIfInBounds_toArray, List.set_cons_zero, List.set_cons_succ]
      refine wpH_call (i := 19) (o := { dst := some 23, op := Op.call { callee := Callee.value (Operand.func 92), args := #[Operand.tmp 4, Operand.tmp 11, Operand.tmp 22], argTypes := #[106, 3, 4] }, type := 4, pos := _, after := #[{ on := 0, ground := Ground.data }, { on := 7, ground := Ground.data }, { on := 18, ground := Ground.data }, { on := 18, ground := Ground.chain }], guard := none }) (by kernel_rfl) rfl (fun K' hK => ?_)
      rw [if_pos (by rfl)]
      go_simp
      refine (HP.out _ s8).mono ?_
      rintro e v9 ⟨rfl, q2, t2⟩
      have Q2 := hid (And.intro q2 (touch_r s8 t2))
      refine hK.out _ _ trivial ?_
      clear hK
      try simp only [Go.Act.put, List.setIfInBounds_toArray, List.set_cons_zero, List.set_cons_succ]
      refine wpAnyH_done (by kernel_rfl) ?_ _
      go_wp2_with fail
      go_end0
      exact ⟨rfl, Q2.out⟩
    exact AllH.nil
  refine AllH.cons (o := { dst := some 15, op := Op.load 9 (Operand.tmp 14), type := 9, pos := _, after := #[{ on := 10, ground := Ground.data }], guard := none }) rfl (fun K' hK => ?_) ?_
  · rw [if_pos (by rfl)]
    have z10 := C0 _ s0
    go_simp
    clear z10
    refine hK.out _ _ trivial ?_
    clear hK
    try simp only [Go.Act.put, List.setIfInBounds_toArray, List.set_cons_zero, List.set_cons_succ]
    refine wpH_ready (rs := [4, 15]) (by kernel_rfl) (by simp) ?_
    refine AllH.cons (o := { dst := some 8, op := Op.load 3 (Operand.tmp 7), type := 3, pos := _, after := #[{ on := 3, ground := Ground.data }], guard := none }) rfl (fun K' hK => ?_) ?_
    · rw [if_pos (by rfl)]
      have z11 := C1 _ s0
      go_simp
      clear z11
      refine hK.out _ _ trivial ?_
      clear hK
      try simp only [Go.Act.put, List.setIfInBounds_toArray, List.set_cons_zero, List.set_cons_succ]
      refine wpH_take (i := 7) (v := (.int .i64 ((k : Int) + (m.size : Int)))) (some 11) rfl rfl (by kernel_rfl) (by kernel_rfl) (by kernel_rfl) (fun _ _ _ h => h) (Or.inl ⟨by rfl, fun w' hS => (by go_simp)⟩) trivial ?_
      try simp only [Go.Act.put, List.setIfInBounds_toArray, List.set_cons_zero, List.set_cons_succ]
      refine wpH_call (i := 15) (o := { dst := some 19, op := Op.load 3 (Operand.tmp 18), type := 3, pos := _, after := #[{ on := 14, ground := Ground.data }], guard := none }) (by kernel_rfl) rfl (fun K' hK => ?_)
      rw [if_pos (by rfl)]
      have z12 := C1 _ s0
      go_simp
      clear z12
      refine hK.out _ _ trivial ?_
      clear hK
      try simp only [Go.Act.put, List.setIfInBounds_toArray, List.set_cons_zero, List.set_cons_succ]
      refine wpH_take (i := 16) (v := (.string (s.extract k s.size))) (some 20) rfl rfl (by kernel_rfl) (by kernel_rfl) (by kernel_rfl) (fun _ _ _ h => h) (Or.inl ⟨by rfl, fun w' hS => (by go_simp)⟩) trivial ?_
      try simp only [Go.Act.put, List.setIfInBounds_toArray, List.set_cons_zero, List.set_cons_succ]
      refine wpH_call (i := 18) (o := { dst := some 22, op := Op.call { callee := Callee.value (Operand.func 93), args := #[Operand.tmp 20, Operand.tmp 21], argTypes := #[9, 9] }, type := 4, pos := _, after := #[{ on := 16, ground := Ground.data }, { on := 17, ground := Ground.data }], guard := none }) (by kernel_rfl) rfl (fun K' hK => ?_)
      rw [if_pos (by rfl)]
      go_simp
      refine (HH.out _).mono ?_
      rintro e v13 ⟨rfl, t13⟩
      have s13 : Touch [] w v13 := s0.trans' t13
      refine hK.out _ _ trivial ?_
      clear hK
      try simp only [Go.Act.put, List.setIfInBounds_toArray, List.set_cons_zero, List.set_cons_succ]
      refine wpH_call (i := 19) (o := { dst := some 23, op := Op.call { callee := Callee.value (Operand.func 92), args := #[Operand.tmp 4, Operand.tmp 11, Operand.tmp 22], argTypes := #[106, 3, 4] }, type := 4, pos := _, after := #[{ on := 0, ground := Ground.data }, { on := 7, ground := Ground.data }, { on := 18, ground := Ground.data }, { on := 18, ground := Ground.chain }], guard := none }) (by kernel_rfl) rfl (fun K' hK => ?_)
      rw [if_pos (by rfl)]
      go_simp
      refine (HP.out _ s13).mono ?_
      rintro e v14 ⟨rfl, q2, t2⟩
      have Q2 := hid (And.intro q2 (touch_r s13 t2))
      refine hK.out _ _ trivial ?_
      clear hK
      try simp only [Go.Act.put, List.setIfInBounds_toArray, List.set_cons_zero, List.set_cons_succ]
      refine wpAnyH_done (by kernel_rfl) ?_ _
      go_wp2_with fail
      go_end0
      exact ⟨rfl, Q2.out⟩
    refine AllH.cons (o := { dst := some 19, op := Op.load 3 (Operand.tmp 18), type := 3, pos := _, after := #[{ on := 14, ground := Ground.data }], guard := none }) rfl (fun K' hK => ?_) ?_
    · rw [if_pos (by rfl)]
      have z15 := C1 _ s0
      go_simp
      clear z15
      refine hK.out _ _ trivial ?_
      clear hK
      try simp only [Go.Act.put, List.setIfInBounds_toArray, List.set_cons_zero, List.set_cons_succ]
      refine wpH_take (i := 16) (v := (.string (s.extract k s.size))) (some 20) rfl rfl (by kernel_rfl) (by kernel_rfl) (by kernel_rfl) (fun _ _ _ h => h) (Or.inl ⟨by rfl, fun w' hS => (by go_simp)⟩) trivial ?_
      try simp only [Go.Act.put, List.setIfInBounds_toArray, List.set_cons_zero, List.set_cons_succ]
      refine wpH_ready (rs := [4, 18]) (by kernel_rfl) (by simp) ?_
      refine AllH.cons (o := { dst := some 8, op := Op.load 3 (Operand.tmp 7), type := 3, pos := _, after := #[{ on := 3, ground := Ground.data }], guard := none }) rfl (fun K' hK => ?_) ?_
      · rw [if_pos (by rfl)]
        have z16 := C1 _ s0
        go_simp
        clear z16
        refine hK.out _ _ trivial ?_
        clear hK
        try simp only [Go.Act.put, List.setIfInBounds_toArray, List.set_cons_zero, List.set_cons_succ]
        refine wpH_take (i := 7) (v := (.int .i64 ((k : Int) + (m.size : Int)))) (some 11) rfl rfl (by kernel_rfl) (by kernel_rfl) (by kernel_rfl) (fun _ _ _ h => h) (Or.inl ⟨by rfl, fun w' hS => (by go_simp)⟩) trivial ?_
        try simp only [Go.Act.put, List.setIfInBounds_toArray, List.set_cons_zero, List.set_cons_succ]
        refine wpH_call (i := 18) (o := { dst := some 22, op := Op.call { callee := Callee.value (Operand.func 93), args := #[Operand.tmp 20, Operand.tmp 21], argTypes := #[9, 9] }, type := 4, pos := _, after := #[{ on := 16, ground := Ground.data }, { on := 17, ground := Ground.data }], guard := none }) (by kernel_rfl) rfl (fun K' hK => ?_)
        rw [if_pos (by rfl)]
        go_simp
        refine (HH.out _).mono ?_
        rintro e v17 ⟨rfl, t17⟩
        have s17 : Touch [] w v17 := s0.trans' t17
        refine hK.out _ _ trivial ?_
        clear hK
        try simp only [Go.Act.put, List.setIfInBounds_toArray, List.set_cons_zero, List.set_cons_succ]
        refine wpH_call (i := 19) (o := { dst := some 23, op := Op.call { callee := Callee.value (Operand.func 92), args := #[Operand.tmp 4, Operand.tmp 11, Operand.tmp 22], argTypes := #[106, 3, 4] }, type := 4, pos := _, after := #[{ on := 0, ground := Ground.data }, { on := 7, ground := Ground.data }, { on := 18, ground := Ground.data }, { on := 18, ground := Ground.chain }], guard := none }) (by kernel_rfl) rfl (fun K' hK => ?_)
        rw [if_pos (by rfl)]
        go_simp
        refine (HP.out _ s17).mono ?_
        rintro e v18 ⟨rfl, q2, t2⟩
        have Q2 := hid (And.intro q2 (touch_r s17 t2))
        refine hK.out _ _ trivial ?_
        clear hK
        try simp only [Go.Act.put, List.setIfInBounds_toArray, List.set_cons_zero, List.set_cons_succ]
        refine wpAnyH_done (by kernel_rfl) ?_ _
        go_wp2_with fail
        go_end0
        exact ⟨rfl, Q2.out⟩
      refine AllH.cons (o := { dst := some 22, op := Op.call { callee := Callee.value (Operand.func 93), args := #[Operand.tmp 20, Operand.tmp 21], argTypes := #[9, 9] }, type := 4, pos := _, after := #[{ on := 16, ground := Ground.data }, { on := 17, ground := Ground.data }], guard := none }) rfl (fun K' hK => ?_) ?_
      · rw [if_pos (by rfl)]
        go_simp
        refine (HH.out _).mono ?_
        rintro e v19 ⟨rfl, t19⟩
        have s19 : Touch [] w v19 := s0.trans' t19
        refine hK.out _ _ trivial ?_
        clear hK
        try simp only [Go.Act.put, List.setIfInBounds_toArray, List.set_cons_zero, List.set_cons_succ]
        refine wpH_call (i := 4) (o := { dst := some 8, op := Op.load 3 (Operand.tmp 7), type := 3, pos := _, after := #[{ on := 3, ground := Ground.data }], guard := none }) (by kernel_rfl) rfl (fun K' hK => ?_)
        rw [if_pos (by rfl)]
        have z20 := C1 _ s19
        go_simp
        clear z20
        refine hK.out _ _ trivial ?_
        clear hK
        try simp only [Go.Act.put, List.setIfInBounds_toArray, List.set_cons_zero, List.set_cons_succ]
        refine wpH_take (i := 7) (v := (.int .i64 ((k : Int) + (m.size : Int)))) (some 11) rfl rfl (by kernel_rfl) (by kernel_rfl) (by kernel_rfl) (fun _ _ _ h => h) (Or.inl ⟨by rfl, fun w' hS => (by go_simp)⟩) trivial ?_
        try simp only [Go.Act.put, List.setIfInBounds_toArray, List.set_cons_zero, List.set_cons_succ]
        refine wpH_call (i := 19) (o := { dst := some 23, op := Op.call { callee := Callee.value (Operand.func 92), args := #[Operand.tmp 4, Operand.tmp 11, Operand.tmp 22], argTypes := #[106, 3, 4] }, type := 4, pos := _, after := #[{ on := 0, ground := Ground.data }, { on := 7, ground := Ground.data }, { on := 18, ground := Ground.data }, { on := 18, ground := Ground.chain }], guard := none }) (by kernel_rfl) rfl (fun K' hK => ?_)
        rw [if_pos (by rfl)]
        go_simp
        refine (HP.out _ s19).mono ?_
        rintro e v21 ⟨rfl, q2, t2⟩
        have Q2 := hid (And.intro q2 (touch_r s19 t2))
        refine hK.out _ _ trivial ?_
        clear hK
        try simp only [Go.Act.put, List.setIfInBounds_toArray, List.set_cons_zero, List.set_cons_succ]
        refine wpAnyH_done (by kernel_rfl) ?_ _
        go_wp2_with fail
        go_end0
        exact ⟨rfl, Q2.out⟩
      exact AllH.nil
    exact AllH.nil
  refine AllH.cons (o := { dst := some 19, op := Op.load 3 (Operand.tmp 18), type := 3, pos := _, after := #[{ on := 14, ground := Ground.data }], guard := none }) rfl (fun K' hK => ?_) ?_
  · rw [if_pos (by rfl)]
    have z22 := C1 _ s0
    go_simp
    clear z22
    refine hK.out _ _ trivial ?_
    clear hK
    try simp only [Go.Act.put, List.setIfInBounds_toArray, List.set_cons_zero, List.set_cons_succ]
    refine wpH_ready (rs := [4, 11]) (by kernel_rfl) (by simp) ?_
    refine AllH.cons (o := { dst := some 8, op := Op.load 3 (Operand.tmp 7), type := 3, pos := _, after := #[{ on := 3, ground := Ground.data }], guard := none }) rfl (fun K' hK => ?_) ?_
    · rw [if_pos (by rfl)]
      have z23 := C1 _ s0
      go_simp
      clear z23
      refine hK.out _ _ trivial ?_
      clear hK
      try simp only [Go.Act.put, List.setIfInBounds_toArray, List.set_cons_zero, List.set_cons_succ]
      refine wpH_take (i := 7) (v := (.int .i64 ((k : Int) + (m.size : Int)))) (some 11) rfl rfl (by kernel_rfl) (by kernel_rfl) (by kernel_rfl) (fun _ _ _ h => h) (Or.inl ⟨by rfl, fun w' hS => (by go_simp)⟩) trivial ?_
      try simp only [Go.Act.put, List.setIfInBounds_toArray, List.set_cons_zero, List.set_cons_succ]
      refine wpH_call (i := 11) (o := { dst := some 15, op := Op.load 9 (Operand.tmp 14), type := 9, pos := _, after := #[{ on := 10, ground := Ground.data }], guard := none }) (by kernel_rfl) rfl (fun K' hK => ?_)
      rw [if_pos (by rfl)]
      have z24 := C0 _ s0
      go_simp
      clear z24
      refine hK.out _ _ trivial ?_
      clear hK
      try simp only [Go.Act.put, List.setIfInBounds_toArray, List.set_cons_zero, List.set_cons_succ]
      refine wpH_take (i := 16) (v := (.string (s.extract k s.size))) (some 20) rfl rfl (by kernel_rfl) (by kernel_rfl) (by kernel_rfl) (fun _ _ _ h => h) (Or.inl ⟨by rfl, fun w' hS => (by go_simp)⟩) trivial ?_
      try simp only [Go.Act.put, List.setIfInBounds_toArray, List.set_cons_zero, List.set_cons_succ]
      refine wpH_call (i := 18) (o := { dst := some 22, op := Op.call { callee := Callee.value (Operand.func 93), args := #[Operand.tmp 20, Operand.tmp 21], argTypes := #[9, 9] }, type := 4, pos := _, after := #[{ on := 16, ground := Ground.data }, { on := 17, ground := Ground.data }], guard := none }) (by kernel_rfl) rfl (fun K' hK => ?_)
      rw [if_pos (by rfl)]
      go_simp
      refine (HH.out _).mono ?_
      rintro e v25 ⟨rfl, t25⟩
      have s25 : Touch [] w v25 := s0.trans' t25
      refine hK.out _ _ trivial ?_
      clear hK
      try simp only [Go.Act.put, List.setIfInBounds_toArray, List.set_cons_zero, List.set_cons_succ]
      refine wpH_call (i := 19) (o := { dst := some 23, op := Op.call { callee := Callee.value (Operand.func 92), args := #[Operand.tmp 4, Operand.tmp 11, Operand.tmp 22], argTypes := #[106, 3, 4] }, type := 4, pos := _, after := #[{ on := 0, ground := Ground.data }, { on := 7, ground := Ground.data }, { on := 18, ground := Ground.data }, { on := 18, ground := Ground.chain }], guard := none }) (by kernel_rfl) rfl (fun K' hK => ?_)
      rw [if_pos (by rfl)]
      go_simp
      refine (HP.out _ s25).mono ?_
      rintro e v26 ⟨rfl, q2, t2⟩
      have Q2 := hid (And.intro q2 (touch_r s25 t2))
      refine hK.out _ _ trivial ?_
      clear hK
      try simp only [Go.Act.put, List.setIfInBounds_toArray, List.set_cons_zero, List.set_cons_succ]
      refine wpAnyH_done (by kernel_rfl) ?_ _
      go_wp2_with fail
      go_end0
      exact ⟨rfl, Q2.out⟩
    refine AllH.cons (o := { dst := some 15, op := Op.load 9 (Operand.tmp 14), type := 9, pos := _, after := #[{ on := 10, ground := Ground.data }], guard := none }) rfl (fun K' hK => ?_) ?_
    · rw [if_pos (by rfl)]
      have z27 := C0 _ s0
      go_simp
      clear z27
      refine hK.out _ _ trivial ?_
      clear hK
      try simp only [Go.Act.put, List.setIfInBounds_toArray, List.set_cons_zero, List.set_cons_succ]
      refine wpH_take (i := 16) (v := (.string (s.extract k s.size))) (some 20) rfl rfl (by kernel_rfl) (by kernel_rfl) (by kernel_rfl) (fun _ _ _ h => h) (Or.inl ⟨by rfl, fun w' hS => (by go_simp)⟩) trivial ?_
      try simp only [Go.Act.put, List.setIfInBounds_toArray, List.set_cons_zero, List.set_cons_succ]
      refine wpH_ready (rs := [4, 18]) (by kernel_rfl) (by simp) ?_
      refine AllH.cons (o := { dst := some 8, op := Op.load 3 (Operand.tmp 7), type := 3, pos := _, after := #[{ on := 3, ground := Ground.data }], guard := none }) rfl (fun K' hK => ?_) ?_
      · rw [if_pos (by rfl)]
        have z28 := C1 _ s0
        go_simp
        clear z28
        refine hK.out _ _ trivial ?_
        clear hK
        try simp only [Go.Act.put, List.setIfInBounds_toArray, List.set_cons_zero, List.set_cons_succ]
        refine wpH_take (i := 7) (v := (.int .i64 ((k : Int) + (m.size : Int)))) (some 11) rfl rfl (by kernel_rfl) (by kernel_rfl) (by kernel_rfl) (fun _ _ _ h => h) (Or.inl ⟨by rfl, fun w' hS => (by go_simp)⟩) trivial ?_
        try simp only [Go.Act.put, List.setIfInBounds_toArray, List.set_cons_zero, List.set_cons_succ]
        refine wpH_call (i := 18) (o := { dst := some 22, op := Op.call { callee := Callee.value (Operand.func 93), args := #[Operand.tmp 20, Operand.tmp 21], argTypes := #[9, 9] }, type := 4, pos := _, after := #[{ on := 16, ground := Ground.data }, { on := 17, ground := Ground.data }], guard := none }) (by kernel_rfl) rfl (fun K' hK => ?_)
        rw [if_pos (by rfl)]
        go_simp
        refine (HH.out _).mono ?_
        rintro e v29 ⟨rfl, t29⟩
        have s29 : Touch [] w v29 := s0.trans' t29
        refine hK.out _ _ trivial ?_
        clear hK
        try simp only [Go.Act.put, List.setIfInBounds_toArray, List.set_cons_zero, List.set_cons_succ]
        refine wpH_call (i := 19) (o := { dst := some 23, op := Op.call { callee := Callee.value (Operand.func 92), args := #[Operand.tmp 4, Operand.tmp 11, Operand.tmp 22], argTypes := #[106, 3, 4] }, type := 4, pos := _, after := #[{ on := 0, ground := Ground.data }, { on := 7, ground := Ground.data }, { on := 18, ground := Ground.data }, { on := 18, ground := Ground.chain }], guard := none }) (by kernel_rfl) rfl (fun K' hK => ?_)
        rw [if_pos (by rfl)]
        go_simp
        refine (HP.out _ s29).mono ?_
        rintro e v30 ⟨rfl, q2, t2⟩
        have Q2 := hid (And.intro q2 (touch_r s29 t2))
        refine hK.out _ _ trivial ?_
        clear hK
        try simp only [Go.Act.put, List.setIfInBounds_toArray, List.set_cons_zero, List.set_cons_succ]
        refine wpAnyH_done (by kernel_rfl) ?_ _
        go_wp2_with fail
        go_end0
        exact ⟨rfl, Q2.out⟩
      refine AllH.cons (o := { dst := some 22, op := Op.call { callee := Callee.value (Operand.func 93), args := #[Operand.tmp 20, Operand.tmp 21], argTypes := #[9, 9] }, type := 4, pos := _, after := #[{ on := 16, ground := Ground.data }, { on := 17, ground := Ground.data }], guard := none }) rfl (fun K' hK => ?_) ?_
      · rw [if_pos (by rfl)]
        go_simp
        refine (HH.out _).mono ?_
        rintro e v31 ⟨rfl, t31⟩
        have s31 : Touch [] w v31 := s0.trans' t31
        refine hK.out _ _ trivial ?_
        clear hK
        try simp only [Go.Act.put, List.setIfInBounds_toArray, List.set_cons_zero, List.set_cons_succ]
        refine wpH_call (i := 4) (o := { dst := some 8, op := Op.load 3 (Operand.tmp 7), type := 3, pos := _, after := #[{ on := 3, ground := Ground.data }], guard := none }) (by kernel_rfl) rfl (fun K' hK => ?_)
        rw [if_pos (by rfl)]
        have z32 := C1 _ s31
        go_simp
        clear z32
        refine hK.out _ _ trivial ?_
        clear hK
        try simp only [Go.Act.put, List.setIfInBounds_toArray, List.set_cons_zero, List.set_cons_succ]
        refine wpH_take (i := 7) (v := (.int .i64 ((k : Int) + (m.size : Int)))) (some 11) rfl rfl (by kernel_rfl) (by kernel_rfl) (by kernel_rfl) (fun _ _ _ h => h) (Or.inl ⟨by rfl, fun w' hS => (by go_simp)⟩) trivial ?_
        try simp only [Go.Act.put, List.setIfInBounds_toArray, List.set_cons_zero, List.set_cons_succ]
        refine wpH_call (i := 19) (o := { dst := some 23, op := Op.call { callee := Callee.value (Operand.func 92), args := #[Operand.tmp 4, Operand.tmp 11, Operand.tmp 22], argTypes := #[106, 3, 4] }, type := 4, pos := _, after := #[{ on := 0, ground := Ground.data }, { on := 7, ground := Ground.data }, { on := 18, ground := Ground.data }, { on := 18, ground := Ground.chain }], guard := none }) (by kernel_rfl) rfl (fun K' hK => ?_)
        rw [if_pos (by rfl)]
        go_simp
        refine (HP.out _ s31).mono ?_
        rintro e v33 ⟨rfl, q2, t2⟩
        have Q2 := hid (And.intro q2 (touch_r s31 t2))
        refine hK.out _ _ trivial ?_
        clear hK
        try simp only [Go.Act.put, List.setIfInBounds_toArray, List.set_cons_zero, List.set_cons_succ]
        refine wpAnyH_done (by kernel_rfl) ?_ _
        go_wp2_with fail
        go_end0
        exact ⟨rfl, Q2.out⟩
      exact AllH.nil
    exact AllH.nil
  exact AllH.nil
def sumR (s : ByteArray) (x : Rd) : Rd × Nat := (passS x (x.at_ + 8) (decide (8 ≤ (s.size : Int) - x.at_)), if passB x (decide (8 ≤ (s.size : Int) - x.at_)) then val8 (s.data.toList.drop x.at_.toNat) else 0)
set_option maxHeartbeats 4000000 in
theorem sum_r {w : World} {r : Nat} {s : ByteArray} {x : Rd} (h : Rq w r s x) (hi : Rin s x) (hs : s.size ≤ 140737488351232) : Calls Tryz.prog 65 #[PT r] w fun e w' => e = .returned (.int .u64 ((sumR s x).2 : Nat)) ∧ Rq w' r s (sumR s x).1 ∧ Touch [r] w w' := by
  obtain ⟨k, hk⟩ : ∃ k : Nat, x.at_ = (k : Int) := ⟨x.at_.toNat, by have := hi.1; omega⟩
  have hks : k ≤ s.size := by have := hi.2; omega
  have hes : (s.extract k s.size).data.toList = s.data.toList.drop k := by rw [extract_data, List.take_of_length_le (by simp)]
  have HP := hid (pass_ h ((k : Int) + 8) (decide (8 ≤ (s.size : Int) - (k : Int))))
  have HB : Hid (passB x (decide (8 ≤ (s.size : Int) - (k : Int))) = true → 8 ≤ s.size - k) := hid (fun hb => by
    unfold passB at hb
    split at hb
    · cases hb
    · have := of_decide_eq_true hb; omega)
  have HS := hid (fun (h8 : 8 ≤ s.size - k) w => takeSum_ w (s.extract k s.size) (by rw [ByteArray.size_extract]; omega))
  rw [hes] at HS
  unfold sumR
  rw [hk]
  have ek : ((k : Int)).toNat = k := by omega
  rw [ek]
  have c0 := cell_of (n := 0) h rfl
  have c1 := cell_of (n := 1) h rfl
  rw [hk] at c1
  have z0 : (0 : Int) ≤ (k : Int) := by omega
  have z1 : (k : Int) ≤ (s.size : Int) := by omega
  have sl : ∀ w, (Instr.slice 9 (.string s) (some (.int .i64 (k : Int))) none none).run Tryz.prog w = .ok (.string (s.extract k s.size)) w := fun w => by go_simp
  have wk : IntKind.i64.wrap ((k : Int) + 8) = (k : Int) + 8 := by rw [IntKind.wrap_i64]; omega
  have wd : IntKind.i64.wrap ((s.size : Int) - (k : Int)) = (s.size : Int) - (k : Int) := by rw [IntKind.wrap_i64]; omega
  generalize val8 (s.data.toList.drop k) = vv at *
  generalize passS x ((k : Int) + 8) (decide (8 ≤ (s.size : Int) - (k : Int))) = S' at *
  generalize passB x (decide (8 ≤ (s.size : Int) - (k : Int))) = B at *
  generalize hD : decide (8 ≤ (s.size : Int) - (k : Int)) = D at *
  have HQ : Hid (∀ w', Rq w' r s S' → w'.cell? ⟨r, 0, none⟩ = some (.string s)) := hid (fun w' q => cell_of (n := 0) q rfl)
  clear hes hk hi h hs hks ek
  unfold PT at *
  cases B with
  | false =>
    clear HB HS
    go_enter Tryz.func65, Tryz.ntmps65
    go_wp2_with (go_at_call 92; refine HP.out.mono ?_; rintro e w2 ⟨rfl, q2, t2⟩)
    go_ret
    exact ⟨rfl, q2, t2⟩
  | true =>
    have HS2 := hid (HS.out (HB.out rfl))
    clear HB HS
    go_enter Tryz.func65, Tryz.ntmps65
    go_wp2_with (first
      | (go_at_call 92; refine HP.out.mono ?_; rintro e w2 ⟨rfl, q2, t2⟩; have d0 := HQ.out _ q2)
      | (go_at_call 78; refine (HS2.out _).mono ?_; rintro e w3 ⟨rfl, rfl⟩))
    go_ret
    exact ⟨rfl, q2, t2⟩
end Go.Proofs.YtpefbmheblfbeaaGreat.Sn
/- The contracts of the program's reader: a configuration, and whether anything is kept with a kind; the text's length is a number of the language's, the reader stands within the text. -/
namespace Go.Proofs.YtpefbmheblfbeaaGreat.Sn
open Go.RowKit Go.Sort Go.Shelf Me
set_option linter.unusedVariables false
set_option linter.unusedSimpArgs false
theorem keeps_ (w : World) (c : Cf) (k : Nat) : Calls Tryz.prog 145 #[cv c, .int .i64 k] w fun e w' => e = .returned (.bool (if k = 0 then decide (0 < c.t) else if k = 1 ∨ k = 2 then decide (0 < c.n) else false)) ∧ Touch [] w w' := by
  unfold cv
  by_cases h0 : k = 0
  · subst h0
    rw [if_pos rfl]
    go_enter Tryz.func145, Tryz.ntmps145
    go_wp2
    go_ret
    exact ⟨rfl, (Touch.refl _ _).alloc _⟩
  · rw [if_neg h0]
    have z0 : ¬ (k : Int) = 0 := by omega
    have y0 : ((k : Int) == 0) = false := by simpa using z0
    by_cases h1 : k = 1
    · subst h1
      rw [if_pos (Or.inl rfl)]
      clear h0 z0 y0
      go_enter Tryz.func145, Tryz.ntmps145
      go_wp2
      go_ret
      exact ⟨rfl, (Touch.refl _ _).alloc _⟩
    · have y1 : ((k : Int) == 1) = false := by simp; omega
      by_cases h2 : k = 2
      · subst h2
        rw [if_pos (Or.inr rfl)]
        clear h0 z0 y0 h1 y1
        go_enter Tryz.func145, Tryz.ntmps145
        go_wp2
        go_ret
        exact ⟨rfl, (Touch.refl _ _).alloc _⟩
      · have y2 : ((k : Int) == 2) = false := by simp; omega
        rw [if_neg (by omega)]
        have z1 : ¬ (k : Int) = 1 := by omega
        have z2 : ¬ (k : Int) = 2 := by omega
        clear h0 h1 h2
        go_enter Tryz.func145, Tryz.ntmps145
        go_wp2
        go_ret
        exact ⟨rfl, (Touch.refl _ _).alloc _⟩
def cfgR (s : ByteArray) (x : Rd) : Rd × Cf :=
  let a0 := numR s x 0 9223372036854775807
  let a1 := numR s a0.1 0 9223372036854775807
  let a2 := numR s a1.1 0 9223372036854775807
  let a3 := numR s a2.1 0 65536
  let a4 := numR s a3.1 1 4096
  let a5 := numR s a4.1 1 1024
  let a6 := numR s a5.1 0 9223372036854775807
  (a6.1, ⟨a0.2, a1.2, a2.2, a3.2, a4.2, a5.2, a6.2⟩)
theorem boxT {w w' : World} {r g : Nat} {o : Obj} (t : Touch [r] w w') (h : w.heap[g]? = some o) (hn : g ≠ r) : w'.heap[g]? = some o := t.keep h (by simpa using hn)
set_option maxHeartbeats 1000000 in
theorem config_r {w : World} {r : Nat} {s : ByteArray} {x : Rd} (h : Rq w r s x) (hi : Rin s x) (hs : s.size ≤ 140737488351232) : Calls Tryz.prog 45 #[PT r] w fun e w' => e = .returned (cv (cfgR s x).2) ∧ Rq w' r s (cfgR s x).1 ∧ Touch [r] w w' := by
  have K := hid (fun w' y (q : Rq w' r s y) (hy : Rin s y) => time_r q hy hs)
  have L := hid (fun w' y (q : Rq w' r s y) (hy : Rin s y) (a b : Int) (a0 : 0 ≤ a) (a1 : a ≤ 9223372036854775807) (b0 : 0 ≤ b) (b1 : b ≤ 9223372036854775807) => size_r q hy hs a b a0 a1 b0 b1)
  obtain ⟨V1, hV1⟩ : ∃ V1, V1 = w.alloc (.cells #[.int .i64 0, .int .i64 0, .int .i64 0, .int .i64 0, .int .i64 0, .int .i64 0, .int .i64 0] 23) := ⟨_, rfl⟩
  obtain ⟨V, hV⟩ : ∃ V, V = V1.alloc (.cells #[.int .i64 0, .int .i64 0, .int .i64 0, .int .i64 0, .int .i64 0, .int .i64 0, .int .i64 0] 23) := ⟨_, rfl⟩
  have T1 : Touch [] w V1 := by rw [hV1]; exact (Touch.refl _ _).alloc _
  have T2 : Touch [] V1 V := by rw [hV]; exact (Touch.refl _ _).alloc _
  have e1 : V1.heap.size = w.heap.size + 1 := by rw [hV1]; simp
  have b1 : V.heap[w.heap.size]? = some (.cells #[.int .i64 0, .int .i64 0, .int .i64 0, .int .i64 0, .int .i64 0, .int .i64 0, .int .i64 0] 23 (0, 0)) := T2.keep (by rw [hV1]; exact heap_alloc_new w _) (by simp)
  have b2 : V.heap[w.heap.size + 1]? = some (.cells #[.int .i64 0, .int .i64 0, .int .i64 0, .int .i64 0, .int .i64 0, .int .i64 0, .int .i64 0] 23 (0, 0)) := by rw [← e1, hV]; exact heap_alloc_new V1 _
  have q0 : Rq V r s x := (h.keep0 T1).keep0 T2
  have hVs : V = (w.alloc (.cells #[.int .i64 0, .int .i64 0, .int .i64 0, .int .i64 0, .int .i64 0, .int .i64 0, .int .i64 0] 23)).alloc (.cells #[.int .i64 0, .int .i64 0, .int .i64 0, .int .i64 0, .int .i64 0, .int .i64 0, .int .i64 0] 23) := by rw [hV, hV1]
  have hr := h.lt
  have TV : Hid (Touch [r, w.heap.size + 1, w.heap.size] w V) := hid ((T1.trans' T2).mono (by simp))
  unfold cfgR
  simp only
  have j1 := hi.num 0 9223372036854775807
  have H0 := hid (fun w' (q : Rq w' r s x) => K.out w' _ q hi)
  generalize numR s x 0 9223372036854775807 = a0 at *
  have j2 := j1.num 0 9223372036854775807
  have H1 := hid (fun w' (q : Rq w' r s a0.1) => K.out w' _ q j1)
  generalize numR s a0.1 0 9223372036854775807 = a1 at *
  have j3 := j2.num 0 9223372036854775807
  have H2 := hid (fun w' (q : Rq w' r s a1.1) => K.out w' _ q j2)
  generalize numR s a1.1 0 9223372036854775807 = a2 at *
  have j4 := j3.num 0 65536
  have H3 := hid (fun w' (q : Rq w' r s a2.1) => L.out w' _ q j3 0 65536 (by omega) (by omega) (by omega) (by omega))
  generalize numR s a2.1 0 65536 = a3 at *
  have j5 := j4.num 1 4096
  have H4 := hid (fun w' (q : Rq w' r s a3.1) => L.out w' _ q j4 1 4096 (by omega) (by omega) (by omega) (by omega))
  generalize numR s a3.1 1 4096 = a4 at *
  have j6 := j5.num 1 1024
  have H5 := hid (fun w' (q : Rq w' r s a4.1) => L.out w' _ q j5 1 1024 (by omega) (by omega) (by omega) (by omega))
  generalize numR s a4.1 1 1024 = a5 at *
  have j7 := j6.num 0 9223372036854775807
  have H6 := hid (fun w' (q : Rq w' r s a5.1) => K.out w' _ q j6)
  generalize numR s a5.1 0 9223372036854775807 = a6 at *
  have ne2 : w.heap.size + 1 ≠ r := by omega
  have ne1 : w.heap.size ≠ r := by omega
  generalize hg : w.heap.size + 1 = g at *
  have ng : w.heap.size ≠ g := by omega
  have W0 : Touch [r, g] V V := Touch.refl _ _
  have HTV := hid (T1.trans' T2)
  clear h hi hs hV hV1 T1 T2 e1 K L TV j1 j2 j3 j4 j5 j6 j7
  unfold PT cv at *
  go_enter Tryz.func45, Tryz.ntmps45
  go_upto_region 2 with fail
  rw [← hVs]
  clear hVs
  go_upto_region 3 with (go_at_call 94; refine (H0.out _ q0).mono ?_; rintro e v0 ⟨rfl, p0, t0⟩; have D0 := boxT t0 b2 ne2; have cc := cell_of (n := 0) D0 rfl; have ff := froz_at D0 0)
  obtain ⟨u1, hu⟩ : ∃ u, u = v0.setCell ⟨g, 0, none⟩ (.int .i64 a0.2) := ⟨_, rfl⟩
  rw [← hu]
  have B1 : u1.heap[g]? = some (.cells #[.int .i64 a0.2, .int .i64 0, .int .i64 0, .int .i64 0, .int .i64 0, .int .i64 0, .int .i64 0] 23 (0, 0)) := by rw [hu]; exact bset (i := 0) D0 _
  have q1 : Rq u1 r s a0.1 := by rw [hu]; exact ((Touch.refl [g] v0).setCell (p := ⟨g, 0, none⟩) (Or.inl (by simp)) (.int .i64 a0.2)).keep p0 (by simpa using ne2.symm)
  have W1 : Touch [r, g] V u1 := by rw [hu]; exact ((W0).trans' (t0.mono (by simp))).setCell (Or.inl (by simp)) _
  clear hu cc ff D0 p0 t0 q0 W0 H0 b2
  go_upto_region 4 with (go_at_call 94; refine (H1.out _ q1).mono ?_; rintro e v1 ⟨rfl, p1, t1⟩; have D1 := boxT t1 B1 ne2; have cc := cell_of (n := 1) D1 rfl; have ff := froz_at D1 1)
  obtain ⟨u2, hu⟩ : ∃ u, u = v1.setCell ⟨g, 1, none⟩ (.int .i64 a1.2) := ⟨_, rfl⟩
  rw [← hu]
  have B2 : u2.heap[g]? = some (.cells #[.int .i64 a0.2, .int .i64 a1.2, .int .i64 0, .int .i64 0, .int .i64 0, .int .i64 0, .int .i64 0] 23 (0, 0)) := by rw [hu]; exact bset (i := 1) D1 _
  have q2 : Rq u2 r s a1.1 := by rw [hu]; exact ((Touch.refl [g] v1).setCell (p := ⟨g, 1, none⟩) (Or.inl (by simp)) (.int .i64 a1.2)).keep p1 (by simpa using ne2.symm)
  have W2 : Touch [r, g] V u2 := by rw [hu]; exact ((W1).trans' (t1.mono (by simp))).setCell (Or.inl (by simp)) _
  clear hu cc ff D1 p1 t1 q1 W1 H1 B1
  go_upto_region 5 with (go_at_call 94; refine (H2.out _ q2).mono ?_; rintro e v2 ⟨rfl, p2, t2⟩; have D2 := boxT t2 B2 ne2; have cc := cell_of (n := 2) D2 rfl; have ff := froz_at D2 2)
  obtain ⟨u3, hu⟩ : ∃ u, u = v2.setCell ⟨g, 2, none⟩ (.int .i64 a2.2) := ⟨_, rfl⟩
  rw [← hu]
  have B3 : u3.heap[g]? = some (.cells #[.int .i64 a0.2, .int .i64 a1.2, .int .i64 a2.2, .int .i64 0, .int .i64 0, .int .i64 0, .int .i64 0] 23 (0, 0)) := by rw [hu]; exact bset (i := 2) D2 _
  have q3 : Rq u3 r s a2.1 := by rw [hu]; exact ((Touch.refl [g] v2).setCell (p := ⟨g, 2, none⟩) (Or.inl (by simp)) (.int .i64 a2.2)).keep p2 (by simpa using ne2.symm)
  have W3 : Touch [r, g] V u3 := by rw [hu]; exact ((W2).trans' (t2.mono (by simp))).setCell (Or.inl (by simp)) _
  clear hu cc ff D2 p2 t2 q2 W2 H2 B2
  go_upto_region 6 with (go_at_call 95; refine (H3.out _ q3).mono ?_; rintro e v3 ⟨rfl, p3, t3⟩; have D3 := boxT t3 B3 ne2; have cc := cell_of (n := 3) D3 rfl; have ff := froz_at D3 3)
  obtain ⟨u4, hu⟩ : ∃ u, u = v3.setCell ⟨g, 3, none⟩ (.int .i64 a3.2) := ⟨_, rfl⟩
  rw [← hu]
  have B4 : u4.heap[g]? = some (.cells #[.int .i64 a0.2, .int .i64 a1.2, .int .i64 a2.2, .int .i64 a3.2, .int .i64 0, .int .i64 0, .int .i64 0] 23 (0, 0)) := by rw [hu]; exact bset (i := 3) D3 _
  have q4 : Rq u4 r s a3.1 := by rw [hu]; exact ((Touch.refl [g] v3).setCell (p := ⟨g, 3, none⟩) (Or.inl (by simp)) (.int .i64 a3.2)).keep p3 (by simpa using ne2.symm)
  have W4 : Touch [r, g] V u4 := by rw [hu]; exact ((W3).trans' (t3.mono (by simp))).setCell (Or.inl (by simp)) _
  clear hu cc ff D3 p3 t3 q3 W3 H3 B3
  go_upto_region 7 with (go_at_call 95; refine (H4.out _ q4).mono ?_; rintro e v4 ⟨rfl, p4, t4⟩; have D4 := boxT t4 B4 ne2; have cc := cell_of (n := 4) D4 rfl; have ff := froz_at D4 4)
  obtain ⟨u5, hu⟩ : ∃ u, u = v4.setCell ⟨g, 4, none⟩ (.int .i64 a4.2) := ⟨_, rfl⟩
  rw [← hu]
  have B5 : u5.heap[g]? = some (.cells #[.int .i64 a0.2, .int .i64 a1.2, .int .i64 a2.2, .int .i64 a3.2, .int .i64 a4.2, .int .i64 0, .int .i64 0] 23 (0, 0)) := by rw [hu]; exact bset (i := 4) D4 _
  have q5 : Rq u5 r s a4.1 := by rw [hu]; exact ((Touch.refl [g] v4).setCell (p := ⟨g, 4, none⟩) (Or.inl (by simp)) (.int .i64 a4.2)).keep p4 (by simpa using ne2.symm)
  have W5 : Touch [r, g] V u5 := by rw [hu]; exact ((W4).trans' (t4.mono (by simp))).setCell (Or.inl (by simp)) _
  clear hu cc ff D4 p4 t4 q4 W4 H4 B4
  go_upto_region 8 with (go_at_call 95; refine (H5.out _ q5).mono ?_; rintro e v5 ⟨rfl, p5, t5⟩; have D5 := boxT t5 B5 ne2; have cc := cell_of (n := 5) D5 rfl; have ff := froz_at D5 5)
  obtain ⟨u6, hu⟩ : ∃ u, u = v5.setCell ⟨g, 5, none⟩ (.int .i64 a5.2) := ⟨_, rfl⟩
  rw [← hu]
  have B6 : u6.heap[g]? = some (.cells #[.int .i64 a0.2, .int .i64 a1.2, .int .i64 a2.2, .int .i64 a3.2, .int .i64 a4.2, .int .i64 a5.2, .int .i64 0] 23 (0, 0)) := by rw [hu]; exact bset (i := 5) D5 _
  have q6 : Rq u6 r s a5.1 := by rw [hu]; exact ((Touch.refl [g] v5).setCell (p := ⟨g, 5, none⟩) (Or.inl (by simp)) (.int .i64 a5.2)).keep p5 (by simpa using ne2.symm)
  have W6 : Touch [r, g] V u6 := by rw [hu]; exact ((W5).trans' (t5.mono (by simp))).setCell (Or.inl (by simp)) _
  clear hu cc ff D5 p5 t5 q5 W5 H5 B5
  go_upto_region 9 with (go_at_call 94; refine (H6.out _ q6).mono ?_; rintro e v6 ⟨rfl, p6, t6⟩; have D6 := boxT t6 B6 ne2; have cc := cell_of (n := 6) D6 rfl; have ff := froz_at D6 6)
  obtain ⟨u7, hu⟩ : ∃ u, u = v6.setCell ⟨g, 6, none⟩ (.int .i64 a6.2) := ⟨_, rfl⟩
  rw [← hu]
  have B7 : u7.heap[g]? = some (.cells #[.int .i64 a0.2, .int .i64 a1.2, .int .i64 a2.2, .int .i64 a3.2, .int .i64 a4.2, .int .i64 a5.2, .int .i64 a6.2] 23 (0, 0)) := by rw [hu]; exact bset (i := 6) D6 _
  have q7 : Rq u7 r s a6.1 := by rw [hu]; exact ((Touch.refl [g] v6).setCell (p := ⟨g, 6, none⟩) (Or.inl (by simp)) (.int .i64 a6.2)).keep p6 (by simpa using ne2.symm)
  have W7 : Touch [r, g] V u7 := by rw [hu]; exact ((W6).trans' (t6.mono (by simp))).setCell (Or.inl (by simp)) _
  clear hu cc ff D6 p6 t6 q6 W6 H6 B6
  have b1' := W7.keep b1 (by simp; exact ⟨ne1, ng⟩)
  have x0 := cell_of (n := 0) B7 rfl
  have y0 := cell_of (n := 0) b1' rfl
  have f0 := froz_at b1' 0
  have x1 := cell_of (n := 1) B7 rfl
  have y1 := cell_of (n := 1) b1' rfl
  have f1 := froz_at b1' 1
  have x2 := cell_of (n := 2) B7 rfl
  have y2 := cell_of (n := 2) b1' rfl
  have f2 := froz_at b1' 2
  have x3 := cell_of (n := 3) B7 rfl
  have y3 := cell_of (n := 3) b1' rfl
  have f3 := froz_at b1' 3
  have x4 := cell_of (n := 4) B7 rfl
  have y4 := cell_of (n := 4) b1' rfl
  have f4 := froz_at b1' 4
  have x5 := cell_of (n := 5) B7 rfl
  have y5 := cell_of (n := 5) b1' rfl
  have f5 := froz_at b1' 5
  have x6 := cell_of (n := 6) B7 rfl
  have y6 := cell_of (n := 6) b1' rfl
  have f6 := froz_at b1' 6
  have HQ9 : Hid (∀ W9, W9 = (((((((u7).setCell ⟨w.heap.size, 0, none⟩ (.int .i64 a0.2)).setCell ⟨w.heap.size, 1, none⟩ (.int .i64 a1.2)).setCell ⟨w.heap.size, 2, none⟩ (.int .i64 a2.2)).setCell ⟨w.heap.size, 3, none⟩ (.int .i64 a3.2)).setCell ⟨w.heap.size, 4, none⟩ (.int .i64 a4.2)).setCell ⟨w.heap.size, 5, none⟩ (.int .i64 a5.2)).setCell ⟨w.heap.size, 6, none⟩ (.int .i64 a6.2) → W9.heap[w.heap.size]? = some (.cells #[.int .i64 a0.2, .int .i64 a1.2, .int .i64 a2.2, .int .i64 a3.2, .int .i64 a4.2, .int .i64 a5.2, .int .i64 a6.2] 23 (0, 0)) ∧ Rq W9 r s a6.1 ∧ Touch [r] w W9) := hid (fun W9 h9 => by
    have t9 : Touch [w.heap.size] u7 W9 := by rw [h9]; exact ((((((((Touch.refl [w.heap.size] u7).setCell (p := ⟨w.heap.size, 0, none⟩) (Or.inl (by simp)) (.int .i64 a0.2)).setCell (p := ⟨w.heap.size, 1, none⟩) (Or.inl (by simp)) (.int .i64 a1.2)).setCell (p := ⟨w.heap.size, 2, none⟩) (Or.inl (by simp)) (.int .i64 a2.2)).setCell (p := ⟨w.heap.size, 3, none⟩) (Or.inl (by simp)) (.int .i64 a3.2)).setCell (p := ⟨w.heap.size, 4, none⟩) (Or.inl (by simp)) (.int .i64 a4.2)).setCell (p := ⟨w.heap.size, 5, none⟩) (Or.inl (by simp)) (.int .i64 a5.2)).setCell (p := ⟨w.heap.size, 6, none⟩) (Or.inl (by simp)) (.int .i64 a6.2))
    refine ⟨by rw [h9]; exact (bset (i := 6) (bset (i := 5) (bset (i := 4) (bset (i := 3) (bset (i := 2) (bset (i := 1) (bset (i := 0) b1' (.int .i64 a0.2)) (.int .i64 a1.2)) (.int .i64 a2.2)) (.int .i64 a3.2)) (.int .i64 a4.2)) (.int .i64 a5.2)) (.int .i64 a6.2)), t9.keep q7 (by simpa using ne1.symm), ?_⟩
    refine (HTV.out.mono (G := [r]) (by simp)).trans ((W7.mono (G := [r, g, w.heap.size]) (by intro k hk; simp at hk ⊢; omega)).trans' (t9.mono (by simp))) (fun k hk => ?_)
    simp at hk
    rcases hk with rfl | rfl | rfl
    · exact Or.inl (by simp)
    · exact Or.inr (by omega)
    · exact Or.inr (Nat.le_refl _))
  clear W7 q7 b1 b1' B7 HTV
  go_wp2_with fail
  obtain ⟨W9, hW9⟩ : ∃ W9, W9 = (((((((u7).setCell ⟨w.heap.size, 0, none⟩ (.int .i64 a0.2)).setCell ⟨w.heap.size, 1, none⟩ (.int .i64 a1.2)).setCell ⟨w.heap.size, 2, none⟩ (.int .i64 a2.2)).setCell ⟨w.heap.size, 3, none⟩ (.int .i64 a3.2)).setCell ⟨w.heap.size, 4, none⟩ (.int .i64 a4.2)).setCell ⟨w.heap.size, 5, none⟩ (.int .i64 a5.2)).setCell ⟨w.heap.size, 6, none⟩ (.int .i64 a6.2) := ⟨_, rfl⟩
  rw [← hW9]
  obtain ⟨b8, q8, t8⟩ := HQ9.out W9 hW9
  clear hW9 HQ9 x0 y0 f0 x1 y1 f1 x2 y2 f2 x3 y3 f3 x4 y4 f4 x5 y5 f5 x6 y6 f6
  have y0 : W9.cell? ⟨w.heap.size, 0, none⟩ = some (.int .i64 a0.2) := cell_of b8 rfl
  have y1 : W9.cell? ⟨w.heap.size, 1, none⟩ = some (.int .i64 a1.2) := cell_of b8 rfl
  have y2 : W9.cell? ⟨w.heap.size, 2, none⟩ = some (.int .i64 a2.2) := cell_of b8 rfl
  have y3 : W9.cell? ⟨w.heap.size, 3, none⟩ = some (.int .i64 a3.2) := cell_of b8 rfl
  have y4 : W9.cell? ⟨w.heap.size, 4, none⟩ = some (.int .i64 a4.2) := cell_of b8 rfl
  have y5 : W9.cell? ⟨w.heap.size, 5, none⟩ = some (.int .i64 a5.2) := cell_of b8 rfl
  have y6 : W9.cell? ⟨w.heap.size, 6, none⟩ = some (.int .i64 a6.2) := cell_of b8 rfl
  clear b8
  exact bodyPost_ret (v := .agg #[.int .i64 a0.2, .int .i64 a1.2, .int .i64 a2.2, .int .i64 a3.2, .int .i64 a4.2, .int .i64 a5.2, .int .i64 a6.2]) (by simp [results, Tryz.results45, go_sem, y0, y1, y2, y3, y4, y5, y6]) rfl ⟨rfl, q8, t8⟩
end Go.Proofs.YtpefbmheblfbeaaGreat.Sn
/- The contract of the program's reader for a kind; the text's length is a number of the language's, the reader stands within the text. -/
namespace Go.Proofs.YtpefbmheblfbeaaGreat.Sn
open Go.RowKit Go.Sort Go.Shelf Me
set_option linter.unusedVariables false
set_option linter.unusedSimpArgs false
def keepB (c : Cf) (k : Nat) : Bool := if k = 0 then decide (0 < c.t) else if k = 1 ∨ k = 2 then decide (0 < c.n) else false
def kindR (s : ByteArray) (x : Rd) (c : Cf) : Rd × Int :=
  match s.data.toList[x.at_.toNat]? with
  | some b => (passS x (x.at_ + 1) (keepB c b.toNat), if passB x (keepB c b.toNat) then (b.toNat : Int) else 0)
  | none => (passS x (x.at_ + 1) false, 0)
set_option maxRecDepth 100000 in
set_option maxHeartbeats 2000000 in
theorem kind_r {w : World} {r : Nat} {s : ByteArray} {x : Rd} (h : Rq w r s x) (hi : Rin s x) (hs : s.size ≤ 140737488351232) (c : Cf) : Calls Tryz.prog 131 #[PT r, cv c] w fun e w' => e = .returned (.int .i64 (kindR s x c).2) ∧ Rq w' r s (kindR s x c).1 ∧ Touch [r] w w' := by
  obtain ⟨k, hk⟩ : ∃ k : Nat, x.at_ = (k : Int) := ⟨x.at_.toNat, by have := hi.1; omega⟩
  have ek : x.at_.toNat = k := by omega
  obtain ⟨V, hV⟩ : ∃ V, V = w.alloc (.cells #[.int .i64 c.t, .int .i64 c.n, .int .i64 c.s, .int .i64 c.e, .int .i64 c.f, .int .i64 c.b, .int .i64 c.d] 23) := ⟨_, rfl⟩
  have TV : Touch [] w V := by rw [hV]; exact (Touch.refl _ _).alloc _
  have hb : V.heap[w.heap.size]? = some (.cells #[.int .i64 c.t, .int .i64 c.n, .int .i64 c.s, .int .i64 c.e, .int .i64 c.f, .int .i64 c.b, .int .i64 c.d] 23 (0, 0)) := by rw [hV]; exact heap_alloc_new w _
  have q0 := h.keep0 TV
  have FIN : Hid (∀ w', Touch [r] V w' → Touch [r] w w') := hid (fun w' t => touch_r TV t)
  have C0 : ∀ w', Touch [] V w' → w'.cell? ⟨r, 0, none⟩ = some (.string s) := fun w' t => cell_at (t.keep q0 (by simp)) rfl
  have c1 := cell_of (n := 1) q0 rfl
  rw [hk] at c1
  have X7 : ∀ w', Touch [] V w' → w'.cell? ⟨w.heap.size, 0, none⟩ = some (.int .i64 c.t) ∧ w'.cell? ⟨w.heap.size, 1, none⟩ = some (.int .i64 c.n) ∧ w'.cell? ⟨w.heap.size, 2, none⟩ = some (.int .i64 c.s) ∧ w'.cell? ⟨w.heap.size, 3, none⟩ = some (.int .i64 c.e) ∧ w'.cell? ⟨w.heap.size, 4, none⟩ = some (.int .i64 c.f) ∧ w'.cell? ⟨w.heap.size, 5, none⟩ = some (.int .i64 c.b) ∧ w'.cell? ⟨w.heap.size, 6, none⟩ = some (.int .i64 c.d) := fun w' t => by
    have := t.keep hb (by simp)
    exact ⟨cell_of this rfl, cell_of this rfl, cell_of this rfl, cell_of this rfl, cell_of this rfl, cell_of this rfl, cell_of this rfl⟩
  have wk : IntKind.i64.wrap ((k : Int) + 1) = (k : Int) + 1 := by rw [IntKind.wrap_i64]; have := hi.2; omega
  have zr := h.lt
  by_cases hks : k < s.size
  · obtain ⟨b, hbb⟩ : ∃ b, s[k] = b := ⟨_, rfl⟩
    have eR : kindR s x c = (passS x ((k : Int) + 1) (keepB c b.toNat), if passB x (keepB c b.toNat) then (b.toNat : Int) else 0) := by
      unfold kindR
      rw [ek, List.getElem?_eq_getElem (by simpa using hks), hk]
      simp only
      have e2 : s.data.toList[k] = b := by rw [← hbb]; rfl
      rw [e2]
    rw [eR]
    have HP := hid (fun w' (t : Touch [] V w') => pass_ (q0.keep0 t) ((k : Int) + 1) (keepB c b.toNat))
    have HK : Hid (∀ w, Calls Tryz.prog 145 #[cv c, .int .i64 b.toNat] w fun e w' => e = .returned (.bool (keepB c b.toNat)) ∧ Touch [] w w') := hid (fun w => keeps_ w c b.toNat)
    generalize passS x ((k : Int) + 1) (keepB c b.toNat) = S' at *
    generalize passB x (keepB c b.toNat) = B at *
    generalize keepB c b.toNat = KB at *
    have HQ : Hid (∀ w', Rq w' r s S' → w'.cell? ⟨r, 0, none⟩ = some (.string s)) := hid (fun w' q => cell_of (n := 0) q rfl)
    have z1 : (k : Int) < (s.size : Int) := by omega
    have z0 : (0 : Int) ≤ (k : Int) := by omega
    have HBb := hid b.toNat_lt
    have wb : IntKind.i64.wrap (b.toNat : Int) = (b.toNat : Int) := by rw [IntKind.wrap_i64]; have := HBb.out; omega
    unfold PT cv at *
    clear h hi hs eR ek hk TV hb q0
    go_enter Tryz.func131, Tryz.ntmps131
    go_upto_region 1 with fail
    rw [← hV]
    clear hV
    go_upto_region 2 with fail
    have s0 : Touch [] V V.drew := (Touch.refl _ _).drew
    refine wp_region_H (S := fun _ => True) (by kernel_rfl) ?_
    generalize V.drew = Wd at *
    clear c1
    refine wpH_take (i := 0) (v := (.pointer (some ⟨r, 0, none⟩))) (some 10) rfl rfl (by kernel_rfl) (by kernel_rfl) (by kernel_rfl) (fun _ _ _ h => h) (Or.inl ⟨by rfl, fun w' hS => (by go_simp)⟩) trivial ?_
    try simp only [Go.Act.put, List.setIfInBounds_toArray, List.set_cons_zero, List.set_cons_succ]
    refine wpH_take (i := 1) (v := (.int .i64 (k : Int))) (some 11) rfl rfl (by kernel_rfl) (by kernel_rfl) (by kernel_rfl) (fun _ _ _ h => h) (Or.inl ⟨by rfl, fun w' hS => (by go_simp)⟩) trivial ?_
    try simp only [Go.Act.put, List.setIfInBounds_toArray, List.set_cons_zero, List.set_cons_succ]
    refine wpH_take (i := 2) (v := (.int .i64 ((k : Int) + 1))) (some 12) rfl rfl (by kernel_rfl) (by kernel_rfl) (by kernel_rfl) (fun _ _ _ h => h) (Or.inl ⟨by rfl, fun w' hS => (by go_simp)⟩) trivial ?_
    try simp only [Go.Act.put, List.setIfInBounds_toArray, List.set_cons_zero, List.set_cons_succ]
    refine wpH_take (i := 3) (v := (.int .i64 (k : Int))) (some 13) rfl rfl (by kernel_rfl) (by kernel_rfl) (by kernel_rfl) (fun _ _ _ h => h) (Or.inl ⟨by rfl, fun w' hS => (by go_simp)⟩) trivial ?_
    try simp only [Go.Act.put, List.setIfInBounds_toArray, List.set_cons_zero, List.set_cons_succ]
    refine wpH_take (i := 4) (v := (.pointer (some ⟨r, 0, none⟩))) (some 14) rfl rfl (by kernel_rfl) (by kernel_rfl) (by kernel_rfl) (fun _ _ _ h => h) (Or.inl ⟨by rfl, fun w' hS => (by go_simp)⟩) trivial ?_
    try simp only [Go.Act.put, List.setIfInBounds_toArray, List.set_cons_zero, List.set_cons_succ]
    refine wpH_take (i := 5) (v := (.pointer (some ⟨r, 0, none⟩))) (some 15) rfl rfl (by kernel_rfl) (by kernel_rfl) (by kernel_rfl) (fun _ _ _ h => h) (Or.inl ⟨by rfl, fun w' hS => (by go_simp)⟩) trivial ?_
    try simp only [Go.Act.put, List.setIfInBounds_toArray, List.set_cons_zero, List.set_cons_succ]
    refine wpH_take (i := 6) (v := (.pointer (some ⟨r, 0, none⟩))) (some 16) rfl rfl (by kernel_rfl) (by kernel_rfl) (by kernel_rfl) (fun _ _ _ h => h) (Or.inl ⟨by rfl, fun w' hS => (by go_simp)⟩) trivial ?_
    try simp only [Go.Act.put, List.setIfInBounds_toArray, List.set_cons_zero, List.set_cons_succ]
    refine wpH_call (i := 7) (o := { dst := some 17, op := Op.load 9 (Operand.tmp 16), type := 9, pos := _, after := #[{ on := 6, ground := Ground.data }], guard := none }) (by kernel_rfl) rfl (fun K' hK => ?_)
    rw [if_pos (by rfl)]
    have z1 := C0 _ s0
    go_simp
    clear z1
    refine hK.out _ _ trivial ?_
    clear hK
    try simp only [Go.Act.put, List.setIfInBounds_toArray, List.set_cons_zero, List.set_cons_succ]
    refine wpH_take (i := 8) (v := (.int .i64 (s.size : Int))) (some 18) rfl rfl (by kernel_rfl) (by kernel_rfl) (by kernel_rfl) (fun _ _ _ h => h) (Or.inl ⟨by rfl, fun w' hS => (by go_simp)⟩) trivial ?_
    try simp only [Go.Act.put, List.setIfInBounds_toArray, List.set_cons_zero, List.set_cons_succ]
    refine wpH_take (i := 9) (v := (.bool true)) (some 19) rfl rfl (by kernel_rfl) (by kernel_rfl) (by kernel_rfl) (fun _ _ _ h => h) (Or.inl ⟨by rfl, fun w' hS => (by go_simp)⟩) trivial ?_
    try simp only [Go.Act.put, List.setIfInBounds_toArray, List.set_cons_zero, List.set_cons_succ]
    refine wpH_take (i := 10) (v := (.bool true)) (some 20) rfl rfl (by kernel_rfl) (by kernel_rfl) (by kernel_rfl) (fun _ _ _ h => h) (Or.inl ⟨by rfl, fun w' hS => (by go_simp)⟩) trivial ?_
    try simp only [Go.Act.put, List.setIfInBounds_toArray, List.set_cons_zero, List.set_cons_succ]
    refine wpH_take (i := 12) (v := (.pointer (some ⟨r, 0, none⟩))) (some 22) rfl rfl (by kernel_rfl) (by kernel_rfl) (by kernel_rfl) (fun _ _ _ h => h) (Or.inl ⟨by rfl, fun w' hS => (by go_simp)⟩) trivial ?_
    try simp only [Go.Act.put, List.setIfInBounds_toArray, List.set_cons_zero, List.set_cons_succ]
    refine wpH_take (i := 13) (v := (.pointer (some ⟨r, 0, none⟩))) (some 23) rfl rfl (by kernel_rfl) (by kernel_rfl) (by kernel_rfl) (fun _ _ _ h => h) (Or.inl ⟨by rfl, fun w' hS => (by go_simp)⟩) trivial ?_
    try simp only [Go.Act.put, List.setIfInBounds_toArray, List.set_cons_zero, List.set_cons_succ]
    refine wpH_take (i := 14) (v := (.pointer (some ⟨r, 0, none⟩))) (some 24) rfl rfl (by kernel_rfl) (by kernel_rfl) (by kernel_rfl) (fun _ _ _ h => h) (Or.inl ⟨by rfl, fun w' hS => (by go_simp)⟩) trivial ?_
    try simp only [Go.Act.put, List.setIfInBounds_toArray, List.set_cons_zero, List.set_cons_succ]
    refine wpH_take (i := 16) (v := (.int .i64 (k : Int))) (some 26) rfl rfl (by kernel_rfl) (by kernel_rfl) (by kernel_rfl) (fun _ _ _ h => h) (Or.inl ⟨by rfl, fun w' hS => (by go_simp)⟩) trivial ?_
    try simp only [Go.Act.put, List.setIfInBounds_toArray, List.set_cons_zero, List.set_cons_succ]
    refine wpH_ready (rs := [11, 15]) (by kernel_rfl) (by simp) ?_
    refine AllH.cons (o := { dst := some 21, op := Op.load 23 (Operand.tmp 3), type := 23, pos := _, after := #[{ on := 10, ground := Ground.guard }], guard := some (10, true) }) rfl (fun K' hK => ?_) ?_
    · rw [if_pos (by rfl)]
      obtain ⟨z20, z21, z22, z23, z24, z25, z26⟩ := X7 _ s0
      go_simp
      clear z20 z21 z22 z23 z24 z25 z26
      refine hK.out _ _ trivial ?_
      clear hK
      try simp only [Go.Act.put, List.setIfInBounds_toArray, List.set_cons_zero, List.set_cons_succ]
      refine wpH_call (i := 15) (o := { dst := some 25, op := Op.load 9 (Operand.tmp 24), type := 9, pos := _, after := #[{ on := 14, ground := Ground.data }, { on := 10, ground := Ground.guard }], guard := some (10, true) }) (by kernel_rfl) rfl (fun K' hK => ?_)
      rw [if_pos (by rfl)]
      have z3 := C0 _ s0
      go_simp
      clear z3
      refine hK.out _ _ trivial ?_
      clear hK
      try simp only [Go.Act.put, List.setIfInBounds_toArray, List.set_cons_zero, List.set_cons_succ]
      refine wpH_take (i := 17) (v := (.int .u8 (b.toNat : Int))) (some 27) rfl rfl (by kernel_rfl) (by kernel_rfl) (by kernel_rfl) (fun _ _ _ h => h) (Or.inl ⟨by rfl, fun w' hS => (by go_simp)⟩) trivial ?_
      try simp only [Go.Act.put, List.setIfInBounds_toArray, List.set_cons_zero, List.set_cons_succ]
      refine wpH_take (i := 18) (v := (.int .i64 (b.toNat : Int))) (some 28) rfl rfl (by kernel_rfl) (by kernel_rfl) (by kernel_rfl) (fun _ _ _ h => h) (Or.inl ⟨by rfl, fun w' hS => (by go_simp)⟩) trivial ?_
      try simp only [Go.Act.put, List.setIfInBounds_toArray, List.set_cons_zero, List.set_cons_succ]
      refine wpH_call (i := 19) (o := { dst := some 29, op := Op.call { callee := Callee.value (Operand.func 145), args := #[Operand.tmp 21, Operand.tmp 28], argTypes := #[23, 3] }, type := 4, pos := _, after := #[{ on := 11, ground := Ground.data }, { on := 18, ground := Ground.data }, { on := 10, ground := Ground.chain }, { on := 10, ground := Ground.guard }], guard := some (10, true) }) (by kernel_rfl) rfl (fun K' hK => ?_)
      rw [if_pos (by rfl)]
      go_simp
      refine (HK.out _).mono ?_
      rintro e v4 ⟨rfl, t4⟩
      have s4 : Touch [] V v4 := s0.trans' t4
      refine hK.out _ _ trivial ?_
      clear hK
      try simp only [Go.Act.put, List.setIfInBounds_toArray, List.set_cons_zero, List.set_cons_succ]
      refine wpH_take (i := 20) (v := (.bool KB)) (some 30) rfl rfl (by kernel_rfl) (by kernel_rfl) (by kernel_rfl) (fun _ _ _ h => h) (Or.inl ⟨by rfl, fun w' hS => (by go_simp)⟩) trivial ?_
      try simp only [Go.Act.put, List.setIfInBounds_toArray, List.set_cons_zero, List.set_cons_succ]
      refine wpH_call (i := 21) (o := { dst := some 31, op := Op.call { callee := Callee.value (Operand.func 92), args := #[Operand.tmp 10, Operand.tmp 12, Operand.tmp 30], argTypes := #[106, 3, 4] }, type := 4, pos := _, after := #[{ on := 0, ground := Ground.data }, { on := 2, ground := Ground.data }, { on := 20, ground := Ground.data }, { on := 19, ground := Ground.chain }], guard := none }) (by kernel_rfl) rfl (fun K' hK => ?_)
      rw [if_pos (by rfl)]
      go_simp
      refine (HP.out _ s4).mono ?_
      rintro e v5 ⟨rfl, q2, t2⟩
      have Q2 := hid (And.intro q2 (touch_r s4 t2))
      refine hK.out _ _ trivial ?_
      clear hK
      try simp only [Go.Act.put, List.setIfInBounds_toArray, List.set_cons_zero, List.set_cons_succ]
      refine wpH_take (i := 22) (v := (.bool (!B))) (some 32) rfl rfl (by kernel_rfl) (by kernel_rfl) (by kernel_rfl) (fun _ _ _ h => h) (Or.inl ⟨by rfl, fun w' hS => (by go_simp)⟩) trivial ?_
      try simp only [Go.Act.put, List.setIfInBounds_toArray, List.set_cons_zero, List.set_cons_succ]
      refine wpAnyH_done (by kernel_rfl) ?_ _
      clear t2
      have d0 := HQ.out _ Q2.out.1
      cases B with
      | false =>
        go_wp2_with fail
        go_ret
        exact ⟨rfl, Q2.out.1, FIN.out _ Q2.out.2⟩
      | true =>
        go_wp2_with fail
        go_ret
        exact ⟨rfl, Q2.out.1, FIN.out _ Q2.out.2⟩
    refine AllH.cons (o := { dst := some 25, op := Op.load 9 (Operand.tmp 24), type := 9, pos := _, after := #[{ on := 14, ground := Ground.data }, { on := 10, ground := Ground.guard }], guard := some (10, true) }) rfl (fun K' hK => ?_) ?_
    · rw [if_pos (by rfl)]
      have z6 := C0 _ s0
      go_simp
      clear z6
      refine hK.out _ _ trivial ?_
      clear hK
      try simp only [Go.Act.put, List.setIfInBounds_toArray, List.set_cons_zero, List.set_cons_succ]
      refine wpH_take (i := 17) (v := (.int .u8 (b.toNat : Int))) (some 27) rfl rfl (by kernel_rfl) (by kernel_rfl) (by kernel_rfl) (fun _ _ _ h => h) (Or.inl ⟨by rfl, fun w' hS => (by go_simp)⟩) trivial ?_
      try simp only [Go.Act.put, List.setIfInBounds_toArray, List.set_cons_zero, List.set_cons_succ]
      refine wpH_take (i := 18) (v := (.int .i64 (b.toNat : Int))) (some 28) rfl rfl (by kernel_rfl) (by kernel_rfl) (by kernel_rfl) (fun _ _ _ h => h) (Or.inl ⟨by rfl, fun w' hS => (by go_simp)⟩) trivial ?_
      try simp only [Go.Act.put, List.setIfInBounds_toArray, List.set_cons_zero, List.set_cons_succ]
      refine wpH_call (i := 11) (o := { dst := some 21, op := Op.load 23 (Operand.tmp 3), type := 23, pos := _, after := #[{ on := 10, ground := Ground.guard }], guard := some (10, true) }) (by kernel_rfl) rfl (fun K' hK => ?_)
      rw [if_pos (by rfl)]
      obtain ⟨z70, z71, z72, z73, z74, z75, z76⟩ := X7 _ s0
      go_simp
      clear z70 z71 z72 z73 z74 z75 z76
      refine hK.out _ _ trivial ?_
      clear hK
      try simp only [Go.Act.put, List.setIfInBounds_toArray, List.set_cons_zero, List.set_cons_succ]
      refine wpH_call (i := 19) (o := { dst := some 29, op := Op.call { callee := Callee.value (Operand.func 145), args := #[Operand.tmp 21, Operand.tmp 28], argTypes := #[23, 3] }, type := 4, pos := _, after := #[{ on := 11, ground := Ground.data }, { on := 18, ground := Ground.data }, { on := 10, ground := Ground.chain }, { on := 10, ground := Ground.guard }], guard := some (10, true) }) (by kernel_rfl) rfl (fun K' hK => ?_)
      rw [if_pos (by rfl)]
      go_simp
      refine (HK.out _).mono ?_
      rintro e v8 ⟨rfl, t8⟩
      have s8 : Touch [] V v8 := s0.trans' t8
      refine hK.out _ _ trivial ?_
      clear hK
      try simp only [Go.Act.put, List.setIfInBounds_toArray, List.set_cons_zero, List.set_cons_succ]
      refine wpH_take (i := 20) (v := (.bool KB)) (some 30) rfl rfl (by kernel_rfl) (by kernel_rfl) (by kernel_rfl) (fun _ _ _ h => h) (Or.inl ⟨by rfl, fun w' hS => (by go_simp)⟩) trivial ?_
      try simp only [Go.Act.put, List.setIfInBounds_toArray, List.set_cons_zero, List.set_cons_succ]
      refine wpH_call (i := 21) (o := { dst := some 31, op := Op.call { callee := Callee.value (Operand.func 92), args := #[Operand.tmp 10, Operand.tmp 12, Operand.tmp 30], argTypes := #[106, 3, 4] }, type := 4, pos := _, after := #[{ on := 0, ground := Ground.data }, { on := 2, ground := Ground.data }, { on := 20, ground := Ground.data }, { on := 19, ground := Ground.chain }], guard := none }) (by kernel_rfl) rfl (fun K' hK => ?_)
      rw [if_pos (by rfl)]
      go_simp
      refine (HP.out _ s8).mono ?_
      rintro e v9 ⟨rfl, q2, t2⟩
      have Q2 := hid (And.intro q2 (touch_r s8 t2))
      refine hK.out _ _ trivial ?_
      clear hK
      try simp only [Go.Act.put, List.setIfInBounds_toArray, List.set_cons_zero, List.set_cons_succ]
      refine wpH_take (i := 22) (v := (.bool (!B))) (some 32) rfl rfl (by kernel_rfl) (by kernel_rfl) (by kernel_rfl) (fun _ _ _ h => h) (Or.inl ⟨by rfl, fun w' hS => (by go_simp)⟩) trivial ?_
      try simp only [Go.Act.put, List.setIfInBounds_toArray, List.set_cons_zero, List.set_cons_succ]
      refine wpAnyH_done (by kernel_rfl) ?_ _
      clear t2
      have d0 := HQ.out _ Q2.out.1
      cases B with
      | false =>
        go_wp2_with fail
        go_ret
        exact ⟨rfl, Q2.out.1, FIN.out _ Q2.out.2⟩
      | true =>
        go_wp2_with fail
        go_ret
        exact ⟨rfl, Q2.out.1, FIN.out _ Q2.out.2⟩
    exact AllH.nil
  · have eR : kindR s x c = (passS x ((k : Int) + 1) false, 0) := by
      unfold kindR
      rw [ek, List.getElem?_eq_none (by simp; omega), hk]
    rw [eR]
    have HP := hid (fun w' (t : Touch [] V w') => pass_ (q0.keep0 t) ((k : Int) + 1) false)
    have HBF : ¬ passB x false = true := by unfold passB; split <;> simp
    generalize passS x ((k : Int) + 1) false = S' at *
    generalize passB x false = B at *
    have z1 : ¬ (k : Int) < (s.size : Int) := by omega
    unfold PT cv at *
    clear h hi hs eR ek hk TV hb q0 X7
    go_enter Tryz.func131, Tryz.ntmps131
    go_upto_region 1 with fail
    rw [← hV]
    clear hV
    go_upto_region 2 with fail
    have s0 : Touch [] V V.drew := (Touch.refl _ _).drew
    refine wp_region_H (S := fun _ => True) (by kernel_rfl) ?_
    generalize V.drew = Wd at *
    clear c1
    refine wpH_take (i := 0) (v := (.pointer (some ⟨r, 0, none⟩))) (some 10) rfl rfl (by kernel_rfl) (by kernel_rfl) (by kernel_rfl) (fun _ _ _ h => h) (Or.inl ⟨by rfl, fun w' hS => (by go_simp)⟩) trivial ?_
    try simp only [Go.Act.put, List.setIfInBounds_toArray, List.set_cons_zero, List.set_cons_succ]
    refine wpH_take (i := 1) (v := (.int .i64 (k : Int))) (some 11) rfl rfl (by kernel_rfl) (by kernel_rfl) (by kernel_rfl) (fun _ _ _ h => h) (Or.inl ⟨by rfl, fun w' hS => (by go_simp)⟩) trivial ?_
    try simp only [Go.Act.put, List.setIfInBounds_toArray, List.set_cons_zero, List.set_cons_succ]
    refine wpH_take (i := 2) (v := (.int .i64 ((k : Int) + 1))) (some 12) rfl rfl (by kernel_rfl) (by kernel_rfl) (by kernel_rfl) (fun _ _ _ h => h) (Or.inl ⟨by rfl, fun w' hS => (by go_simp)⟩) trivial ?_
    try simp only [Go.Act.put, List.setIfInBounds_toArray, List.set_cons_zero, List.set_cons_succ]
    refine wpH_take (i := 3) (v := (.int .i64 (k : Int))) (some 13) rfl rfl (by kernel_rfl) (by kernel_rfl) (by kernel_rfl) (fun _ _ _ h => h) (Or.inl ⟨by rfl, fun w' hS => (by go_simp)⟩) trivial ?_
    try simp only [Go.Act.put, List.setIfInBounds_toArray, List.set_cons_zero, List.set_cons_succ]
    refine wpH_take (i := 4) (v := (.pointer (some ⟨r, 0, none⟩))) (some 14) rfl rfl (by kernel_rfl) (by kernel_rfl) (by kernel_rfl) (fun _ _ _ h => h) (Or.inl ⟨by rfl, fun w' hS => (by go_simp)⟩) trivial ?_
    try simp only [Go.Act.put, List.setIfInBounds_toArray, List.set_cons_zero, List.set_cons_succ]
    refine wpH_take (i := 5) (v := (.pointer (some ⟨r, 0, none⟩))) (some 15) rfl rfl (by kernel_rfl) (by kernel_rfl) (by kernel_rfl) (fun _ _ _ h => h) (Or.inl ⟨by rfl, fun w' hS => (by go_simp)⟩) trivial ?_
    try simp only [Go.Act.put, List.setIfInBounds_toArray, List.set_cons_zero, List.set_cons_succ]
    refine wpH_take (i := 6) (v := (.pointer (some ⟨r, 0, none⟩))) (some 16) rfl rfl (by kernel_rfl) (by kernel_rfl) (by kernel_rfl) (fun _ _ _ h => h) (Or.inl ⟨by rfl, fun w' hS => (by go_simp)⟩) trivial ?_
    try simp only [Go.Act.put, List.setIfInBounds_toArray, List.set_cons_zero, List.set_cons_succ]
    refine wpH_call (i := 7) (o := { dst := some 17, op := Op.load 9 (Operand.tmp 16), type := 9, pos := _, after := #[{ on := 6, ground := Ground.data }], guard := none }) (by kernel_rfl) rfl (fun K' hK => ?_)
    rw [if_pos (by rfl)]
    have z1 := C0 _ s0
    go_simp
    clear z1
    refine hK.out _ _ trivial ?_
    clear hK
    try simp only [Go.Act.put, List.setIfInBounds_toArray, List.set_cons_zero, List.set_cons_succ]
    refine wpH_take (i := 8) (v := (.int .i64 (s.size : Int))) (some 18) rfl rfl (by kernel_rfl) (by kernel_rfl) (by kernel_rfl) (fun _ _ _ h => h) (Or.inl ⟨by rfl, fun w' hS => (by go_simp)⟩) trivial ?_
    try simp only [Go.Act.put, List.setIfInBounds_toArray, List.set_cons_zero, List.set_cons_succ]
    refine wpH_take (i := 9) (v := (.bool false)) (some 19) rfl rfl (by kernel_rfl) (by kernel_rfl) (by kernel_rfl) (fun _ _ _ h => h) (Or.inl ⟨by rfl, fun w' hS => (by go_simp)⟩) trivial ?_
    try simp only [Go.Act.put, List.setIfInBounds_toArray, List.set_cons_zero, List.set_cons_succ]
    refine wpH_take (i := 10) (v := (.bool false)) (some 20) rfl rfl (by kernel_rfl) (by kernel_rfl) (by kernel_rfl) (fun _ _ _ h => h) (Or.inl ⟨by rfl, fun w' hS => (by go_simp)⟩) trivial ?_
    try simp only [Go.Act.put, List.setIfInBounds_toArray, List.set_cons_zero, List.set_cons_succ]
    refine wpH_take (i := 11) (v := undef) (some 21) rfl rfl (by kernel_rfl) (by kernel_rfl) (by kernel_rfl) (fun _ _ _ h => h) (Or.inr ⟨by rfl, rfl⟩) trivial ?_
    try simp only [Go.Act.put, List.setIfInBounds_toArray, List.set_cons_zero, List.set_cons_succ]
    refine wpH_take (i := 12) (v := undef) (some 22) rfl rfl (by kernel_rfl) (by kernel_rfl) (by kernel_rfl) (fun _ _ _ h => h) (Or.inr ⟨by rfl, rfl⟩) trivial ?_
    try simp only [Go.Act.put, List.setIfInBounds_toArray, List.set_cons_zero, List.set_cons_succ]
    refine wpH_take (i := 13) (v := undef) (some 23) rfl rfl (by kernel_rfl) (by kernel_rfl) (by kernel_rfl) (fun _ _ _ h => h) (Or.inr ⟨by rfl, rfl⟩) trivial ?_
    try simp only [Go.Act.put, List.setIfInBounds_toArray, List.set_cons_zero, List.set_cons_succ]
    refine wpH_take (i := 14) (v := undef) (some 24) rfl rfl (by kernel_rfl) (by kernel_rfl) (by kernel_rfl) (fun _ _ _ h => h) (Or.inr ⟨by rfl, rfl⟩) trivial ?_
    try simp only [Go.Act.put, List.setIfInBounds_toArray, List.set_cons_zero, List.set_cons_succ]
    refine wpH_take (i := 15) (v := undef) (some 25) rfl rfl (by kernel_rfl) (by kernel_rfl) (by kernel_rfl) (fun _ _ _ h => h) (Or.inr ⟨by rfl, rfl⟩) trivial ?_
    try simp only [Go.Act.put, List.setIfInBounds_toArray, List.set_cons_zero, List.set_cons_succ]
    refine wpH_take (i := 16) (v := undef) (some 26) rfl rfl (by kernel_rfl) (by kernel_rfl) (by kernel_rfl) (fun _ _ _ h => h) (Or.inr ⟨by rfl, rfl⟩) trivial ?_
    try simp only [Go.Act.put, List.setIfInBounds_toArray, List.set_cons_zero, List.set_cons_succ]
    refine wpH_take (i := 17) (v := undef) (some 27) rfl rfl (by kernel_rfl) (by kernel_rfl) (by kernel_rfl) (fun _ _ _ h => h) (Or.inr ⟨by rfl, rfl⟩) trivial ?_
    try simp only [Go.Act.put, List.setIfInBounds_toArray, List.set_cons_zero, List.set_cons_succ]
    refine wpH_take (i := 18) (v := undef) (some 28) rfl rfl (by kernel_rfl) (by kernel_rfl) (by kernel_rfl) (fun _ _ _ h => h) (Or.inr ⟨by rfl, rfl⟩) trivial ?_
    try simp only [Go.Act.put, List.setIfInBounds_toArray, List.set_cons_zero, List.set_cons_succ]
    refine wpH_take (i := 19) (v := undef) (some 29) rfl rfl (by kernel_rfl) (by kernel_rfl) (by kernel_rfl) (fun _ _ _ h => h) (Or.inr ⟨by rfl, rfl⟩) trivial ?_
    try simp only [Go.Act.put, List.setIfInBounds_toArray, List.set_cons_zero, List.set_cons_succ]
    refine wpH_take (i := 20) (v := (.bool false)) (some 30) rfl rfl (by kernel_rfl) (by kernel_rfl) (by kernel_rfl) (fun _ _ _ h => h) (Or.inl ⟨by rfl, fun w' hS => (by go_simp)⟩) trivial ?_
    try simp only [Go.Act.put, List.setIfInBounds_toArray, List.set_cons_zero, List.set_cons_succ]
    refine wpH_call (i := 21) (o := { dst := some 31, op := Op.call { callee := Callee.value (Operand.func 92), args := #[Operand.tmp 10, Operand.tmp 12, Operand.tmp 30], argTypes := #[106, 3, 4] }, type := 4, pos := _, after := #[{ on := 0, ground := Ground.data }, { on := 2, ground := Ground.data }, { on := 20, ground := Ground.data }, { on := 19, ground := Ground.chain }], guard := none }) (by kernel_rfl) rfl (fun K' hK => ?_)
    rw [if_pos (by rfl)]
    go_simp
    refine (HP.out _ s0).mono ?_
    rintro e v2 ⟨rfl, q2, t2⟩
    have Q2 := hid (And.intro q2 (touch_r s0 t2))
    refine hK.out _ _ trivial ?_
    clear hK
    try simp only [Go.Act.put, List.setIfInBounds_toArray, List.set_cons_zero, List.set_cons_succ]
    refine wpH_take (i := 22) (v := (.bool (!B))) (some 32) rfl rfl (by kernel_rfl) (by kernel_rfl) (by kernel_rfl) (fun _ _ _ h => h) (Or.inl ⟨by rfl, fun w' hS => (by go_simp)⟩) trivial ?_
    try simp only [Go.Act.put, List.setIfInBounds_toArray, List.set_cons_zero, List.set_cons_succ]
    refine wpAnyH_done (by kernel_rfl) ?_ _
    clear t2
    cases B with
    | false =>
      go_wp2_with fail
      go_ret
      exact ⟨rfl, Q2.out.1, FIN.out _ Q2.out.2⟩
    | true => exact absurd rfl HBF
end Go.Proofs.YtpefbmheblfbeaaGreat.Sn
/- The contract of the program's reader for an outcome; the text's length is a number of the language's, the reader stands within the text. -/
namespace Go.Proofs.YtpefbmheblfbeaaGreat.Sn
open Go.RowKit Go.Sort Go.Shelf Me
set_option linter.unusedVariables false
set_option linter.unusedSimpArgs false
def outR (s : ByteArray) (x : Rd) (c : Cf) : Rd × O :=
  if (kindR s x c).2 = 0 then ((sigR s (kindR s x c).1).1, ((sigR s (kindR s x c).1).2, 0, 0, 0))
  else ((numR s (sigR s (kindR s x c).1).1 1 9223372036854775807).1, (0, (kindR s x c).2, (sigR s (kindR s x c).1).2, (numR s (sigR s (kindR s x c).1).1 1 9223372036854775807).2))
theorem Rin.pass {s : ByteArray} {x : Rd} (h : Rin s x) {n : Int} {b : Bool} (hn : b = true → 0 ≤ n ∧ n ≤ s.size) : Rin s (passS x n b) := by
  unfold passS
  split
  · exact h
  · split
    · rename_i hb
      exact hn hb
    · exact h
theorem Rin.kind {s : ByteArray} {x : Rd} (h : Rin s x) (c : Cf) : Rin s (kindR s x c).1 := by
  unfold kindR
  cases hg : s.data.toList[x.at_.toNat]? with
  | none => exact h.pass (fun e => by cases e)
  | some b =>
    refine h.pass (fun _ => ?_)
    have := (List.getElem?_eq_some_iff.1 hg).1
    rw [Array.length_toList] at this
    have h2 : x.at_.toNat < s.size := this
    have := h.1
    omega
set_option maxHeartbeats 2000000 in
theorem outcome_r {w : World} {r : Nat} {s : ByteArray} {x : Rd} (h : Rq w r s x) (hi : Rin s x) (hs : s.size ≤ 140737488351232) (c : Cf) : Calls Tryz.prog 98 #[PT r, cv c] w fun e w' => e = .returned (ov (outR s x c).2) ∧ Rq w' r s (outR s x c).1 ∧ Touch [r] w w' := by
  obtain ⟨V1, hV1⟩ : ∃ V1, V1 = w.alloc (.cells #[.int .i64 c.t, .int .i64 c.n, .int .i64 c.s, .int .i64 c.e, .int .i64 c.f, .int .i64 c.b, .int .i64 c.d] 23) := ⟨_, rfl⟩
  obtain ⟨V, hV⟩ : ∃ V, V = V1.alloc (.cells #[.int .i64 0, .int .i64 0, .int .i64 0, .int .i64 0] 58) := ⟨_, rfl⟩
  have T1 : Touch [] w V1 := by rw [hV1]; exact (Touch.refl _ _).alloc _
  have T2 : Touch [] V1 V := by rw [hV]; exact (Touch.refl _ _).alloc _
  have e1 : V1.heap.size = w.heap.size + 1 := by rw [hV1]; simp
  have hb0 : V.heap[w.heap.size]? = some (.cells #[.int .i64 c.t, .int .i64 c.n, .int .i64 c.s, .int .i64 c.e, .int .i64 c.f, .int .i64 c.b, .int .i64 c.d] 23 (0, 0)) := T2.keep (by rw [hV1]; exact heap_alloc_new w _) (by simp)
  have hb1 : V.heap[w.heap.size + 1]? = some (.cells #[.int .i64 0, .int .i64 0, .int .i64 0, .int .i64 0] 58 (0, 0)) := by rw [← e1, hV]; exact heap_alloc_new V1 _
  have q0 : Rq V r s x := (h.keep0 T1).keep0 T2
  have hVs : V = (w.alloc (.cells #[.int .i64 c.t, .int .i64 c.n, .int .i64 c.s, .int .i64 c.e, .int .i64 c.f, .int .i64 c.b, .int .i64 c.d] 23)).alloc (.cells #[.int .i64 0, .int .i64 0, .int .i64 0, .int .i64 0] 58) := by rw [hV, hV1]
  have hr := h.lt
  have ne1 : w.heap.size + 1 ≠ r := by omega
  have HTV := hid (T1.trans' T2)
  have H1 := hid (kind_r q0 hi hs c)
  have j1 := hi.kind c
  unfold outR
  generalize kindR s x c = a at *
  have H2 := hid (fun w' (q : Rq w' r s a.1) => signed_r q j1 hs)
  have j2 := j1.sig
  generalize sigR s a.1 = b at *
  have H3 := hid (fun w' (q : Rq w' r s b.1) => number_r q j2 hs 1 9223372036854775807 (by omega) (by omega) (by omega) (by omega))
  generalize numR s b.1 1 9223372036854775807 = d at *
  have x0 := cell_of (n := 0) hb0 rfl
  have x1 := cell_of (n := 1) hb0 rfl
  have x2 := cell_of (n := 2) hb0 rfl
  have x3 := cell_of (n := 3) hb0 rfl
  have x4 := cell_of (n := 4) hb0 rfl
  have x5 := cell_of (n := 5) hb0 rfl
  have x6 := cell_of (n := 6) hb0 rfl
  clear h hi hs hV hV1 T1 T2 e1 j1 j2
  unfold PT cv at *
  by_cases hk : a.2 = 0
  · rw [if_pos hk]
    obtain ⟨Fsx, hFsx⟩ : ∃ Fsx, Fsx = b.1 := ⟨_, rfl⟩
    rw [← hFsx]
    unfold ov
    rw [hk] at H1
    go_enter Tryz.func98, Tryz.ntmps98
    go_upto_region 1 with fail
    rw [← hVs]
    clear hVs
    go_upto_region 2 with (go_at_call 131; refine H1.out.mono ?_; rintro e u1 ⟨rfl, p1, t1⟩)
    clear x0 x1 x2 x3 x4 x5 x6
    go_wp2_with (go_at_call 132; refine (H2.out _ p1).mono ?_; rintro e u2 ⟨rfl, p2, t2⟩; have b9 := boxT (t1.trans' t2) hb1 ne1; have o0 := cell_of (n := 0) b9 rfl; have o1 := cell_of (n := 1) b9 rfl; have o2 := cell_of (n := 2) b9 rfl; have o3 := cell_of (n := 3) b9 rfl; have g0 := froz_at b9 0; have g1 := froz_at b9 1; have g2 := froz_at b9 2; have g3 := froz_at b9 3)
    obtain ⟨W9, hW9⟩ : ∃ W9, W9 = ((((u2).setCell ⟨w.heap.size + 1, 0, none⟩ (.int .i64 b.2)).setCell ⟨w.heap.size + 1, 1, none⟩ (.int .i64 0)).setCell ⟨w.heap.size + 1, 2, none⟩ (.int .i64 0)).setCell ⟨w.heap.size + 1, 3, none⟩ (.int .i64 0) := ⟨_, rfl⟩
    have t9 : Touch [w.heap.size + 1] u2 W9 := by rw [hW9]; exact (((((Touch.refl [w.heap.size + 1] u2).setCell (p := ⟨w.heap.size + 1, 0, none⟩) (Or.inl (by simp)) (.int .i64 b.2)).setCell (p := ⟨w.heap.size + 1, 1, none⟩) (Or.inl (by simp)) (.int .i64 0)).setCell (p := ⟨w.heap.size + 1, 2, none⟩) (Or.inl (by simp)) (.int .i64 0)).setCell (p := ⟨w.heap.size + 1, 3, none⟩) (Or.inl (by simp)) (.int .i64 0))
    have q8 : Rq W9 r s Fsx := by rw [hFsx]; exact t9.keep p2 (by simpa using ne1.symm)
    have b8 : W9.heap[w.heap.size + 1]? = some (.cells #[.int .i64 b.2, .int .i64 0, .int .i64 0, .int .i64 0] 58 (0, 0)) := by rw [hW9]; exact (bset (i := 3) (bset (i := 2) (bset (i := 1) (bset (i := 0) b9 (.int .i64 b.2)) (.int .i64 0)) (.int .i64 0)) (.int .i64 0))
    have t8 : Touch [r] w W9 := (HTV.out.mono (G := [r]) (by simp)).trans (((t1.trans' t2).mono (G := [r, w.heap.size + 1]) (by simp)).trans' (t9.mono (by simp))) (fun k hk => by
      simp at hk
      rcases hk with rfl | rfl
      · exact Or.inl (by simp)
      · exact Or.inr (by omega))
    rw [← hW9]
    clear hW9 o0 o1 o2 o3 g0 g1 g2 g3 b9
    have y0 : W9.cell? ⟨w.heap.size + 1, 0, none⟩ = some (.int .i64 b.2) := cell_of b8 rfl
    have y1 : W9.cell? ⟨w.heap.size + 1, 1, none⟩ = some (.int .i64 0) := cell_of b8 rfl
    have y2 : W9.cell? ⟨w.heap.size + 1, 2, none⟩ = some (.int .i64 0) := cell_of b8 rfl
    have y3 : W9.cell? ⟨w.heap.size + 1, 3, none⟩ = some (.int .i64 0) := cell_of b8 rfl
    clear b8 t9
    exact bodyPost_ret (v := .agg #[.int .i64 b.2, .int .i64 0, .int .i64 0, .int .i64 0]) (by simp [results, Tryz.results98, go_sem, y0, y1, y2, y3]) rfl ⟨rfl, q8, t8⟩
  · rw [if_neg hk]
    have hkb : (a.2 == 0) = false := by simpa using hk
    obtain ⟨Fsx, hFsx⟩ : ∃ Fsx, Fsx = d.1 := ⟨_, rfl⟩
    rw [← hFsx]
    unfold ov
    go_enter Tryz.func98, Tryz.ntmps98
    go_upto_region 1 with fail
    rw [← hVs]
    clear hVs
    go_upto_region 2 with (go_at_call 131; refine H1.out.mono ?_; rintro e u1 ⟨rfl, p1, t1⟩)
    clear x0 x1 x2 x3 x4 x5 x6
    go_wp2_with (first
      | (go_at_call 132; refine (H2.out _ p1).mono ?_; rintro e u2 ⟨rfl, p2, t2⟩)
      | (go_at_call 46; refine (H3.out _ p2).mono ?_; rintro e u3 ⟨rfl, p3, t3⟩; have b9 := boxT ((t1.trans' t2).trans' t3) hb1 ne1; have o0 := cell_of (n := 0) b9 rfl; have o1 := cell_of (n := 1) b9 rfl; have o2 := cell_of (n := 2) b9 rfl; have o3 := cell_of (n := 3) b9 rfl; have g0 := froz_at b9 0; have g1 := froz_at b9 1; have g2 := froz_at b9 2; have g3 := froz_at b9 3))
    obtain ⟨W9, hW9⟩ : ∃ W9, W9 = ((((u3).setCell ⟨w.heap.size + 1, 0, none⟩ (.int .i64 0)).setCell ⟨w.heap.size + 1, 1, none⟩ (.int .i64 a.2)).setCell ⟨w.heap.size + 1, 2, none⟩ (.int .i64 b.2)).setCell ⟨w.heap.size + 1, 3, none⟩ (.int .i64 d.2) := ⟨_, rfl⟩
    have t9 : Touch [w.heap.size + 1] u3 W9 := by rw [hW9]; exact (((((Touch.refl [w.heap.size + 1] u3).setCell (p := ⟨w.heap.size + 1, 0, none⟩) (Or.inl (by simp)) (.int .i64 0)).setCell (p := ⟨w.heap.size + 1, 1, none⟩) (Or.inl (by simp)) (.int .i64 a.2)).setCell (p := ⟨w.heap.size + 1, 2, none⟩) (Or.inl (by simp)) (.int .i64 b.2)).setCell (p := ⟨w.heap.size + 1, 3, none⟩) (Or.inl (by simp)) (.int .i64 d.2))
    have q8 : Rq W9 r s Fsx := by rw [hFsx]; exact t9.keep p3 (by simpa using ne1.symm)
    have b8 : W9.heap[w.heap.size + 1]? = some (.cells #[.int .i64 0, .int .i64 a.2, .int .i64 b.2, .int .i64 d.2] 58 (0, 0)) := by rw [hW9]; exact (bset (i := 3) (bset (i := 2) (bset (i := 1) (bset (i := 0) b9 (.int .i64 0)) (.int .i64 a.2)) (.int .i64 b.2)) (.int .i64 d.2))
    have t8 : Touch [r] w W9 := (HTV.out.mono (G := [r]) (by simp)).trans ((((t1.trans' t2).trans' t3).mono (G := [r, w.heap.size + 1]) (by simp)).trans' (t9.mono (by simp))) (fun k hk => by
      simp at hk
      rcases hk with rfl | rfl
      · exact Or.inl (by simp)
      · exact Or.inr (by omega))
    rw [← hW9]
    clear hW9 o0 o1 o2 o3 g0 g1 g2 g3 b9
    have y0 : W9.cell? ⟨w.heap.size + 1, 0, none⟩ = some (.int .i64 0) := cell_of b8 rfl
    have y1 : W9.cell? ⟨w.heap.size + 1, 1, none⟩ = some (.int .i64 a.2) := cell_of b8 rfl
    have y2 : W9.cell? ⟨w.heap.size + 1, 2, none⟩ = some (.int .i64 b.2) := cell_of b8 rfl
    have y3 : W9.cell? ⟨w.heap.size + 1, 3, none⟩ = some (.int .i64 d.2) := cell_of b8 rfl
    clear b8 t9
    exact bodyPost_ret (v := .agg #[.int .i64 0, .int .i64 a.2, .int .i64 b.2, .int .i64 d.2]) (by simp [results, Tryz.results98, go_sem, y0, y1, y2, y3]) rfl ⟨rfl, q8, t8⟩
end Go.Proofs.YtpefbmheblfbeaaGreat.Sn
/- Taking a key from bytes, on both sides, as one plain function; the text's length is within the form's reach. -/
namespace Go.Proofs.YtpefbmheblfbeaaGreat.Sn
open Go.RowKit Go.Sort Go.Shelf Me
set_option linter.unusedVariables false
set_option linter.unusedSimpArgs false
def takK (s : ByteArray) (at_ : Int) : Option (K × Int) :=
  if at_ < 0 then none else
  match (s.data.toList.drop at_.toNat) with
  | p :: q :: n :: l => if 64 < n.toNat ∨ l.length < n.toNat then none else some (((p.toNat : Int) + 256 * (q.toNat : Int), ⟨(l.take n.toNat).toArray⟩), at_ + 3 + (n.toNat : Int))
  | _ => none
def takKV : Option (K × Int) → Value
  | some (k, n) => .tuple #[kv k, .int .i64 n, .bool true]
  | none => .tuple #[zeroKey, .int .i64 0, .bool false]
theorem drop3 (s : ByteArray) (k : Nat) (h : k + 3 ≤ s.size) : s.data.toList.drop k = s[k] :: s[k + 1] :: s[k + 2] :: s.data.toList.drop (k + 3) := by
  rw [drop_cons s k (by omega), drop_cons s (k + 1) (by omega), drop_cons s (k + 2) (by omega)]
theorem takK_early {s : ByteArray} {at_ : Int} (h : at_ < 0 ∨ (s.size : Int) - at_ < 3) : takK s at_ = none := by
  unfold takK
  by_cases h0 : at_ < 0
  · rw [if_pos h0]
  · rw [if_neg h0]
    have hl : (s.data.toList.drop at_.toNat).length < 3 := by rw [List.length_drop, Array.length_toList]; show s.size - at_.toNat < 3; omega
    split
    · rename_i p q n l e
      rw [e] at hl
      simp at hl
      omega
    · rfl
theorem takK_at {s : ByteArray} {k : Nat} (hk : k + 3 ≤ s.size) : takK s (k : Int) = if 64 < s[k + 2].toNat ∨ s.size < k + 3 + s[k + 2].toNat then none else some (((s[k].toNat : Int) + 256 * (s[k + 1].toNat : Int), s.extract (k + 3) (k + 3 + s[k + 2].toNat)), (k : Int) + 3 + (s[k + 2].toNat : Int)) := by
  unfold takK
  rw [if_neg (by omega), show ((k : Int)).toNat = k by omega, drop3 s k hk]
  simp only
  have hl : (s.data.toList.drop (k + 3)).length = s.size - (k + 3) := by rw [List.length_drop, Array.length_toList]; rfl
  rw [hl]
  have e : (⟨((s.data.toList.drop (k + 3)).take s[k + 2].toNat).toArray⟩ : ByteArray) = s.extract (k + 3) (k + 3 + s[k + 2].toNat) := str_eq (by rw [extract_data, List.drop_take]; congr 1; omega)
  rw [e]
  by_cases h : 64 < s[k + 2].toNat ∨ s.size < k + 3 + s[k + 2].toNat
  · rw [if_pos h, if_pos (by omega)]
  · rw [if_neg h, if_neg (by omega)]
theorem ktake_ (w : World) (s : ByteArray) (at_ : Int) (hs : s.size ≤ 281474976710656) (ha : at_ ≤ 9223372036854775807) : Calls Tryz.prog 130 #[.string s, .int .i64 at_] w fun e w' => e = .returned (takKV (takK s at_)) ∧ Touch [] w w' := by
  by_cases h : at_ < 0 ∨ (s.size : Int) - at_ < 3
  · rw [takK_early h]
    exact (take18_early s at_ w hs ha h).mono fun e w' ⟨h1, h2⟩ => ⟨h1, Touch.of_below h2⟩
  · obtain ⟨k, rfl⟩ : ∃ k : Nat, at_ = (k : Int) := ⟨at_.toNat, by omega⟩
    have hk : k + 3 ≤ s.size := by omega
    rw [takK_at hk]
    by_cases h2 : 64 < s[k + 2].toNat ∨ s.size < k + 3 + s[k + 2].toNat
    · rw [if_pos h2]
      exact (take18_late s k _ w hs hk rfl h2).mono fun e w' ⟨h1, h2⟩ => ⟨h1, Touch.of_below h2⟩
    · rw [if_neg h2]
      exact (take18_ok s k _ w hs hk rfl _ _ rfl rfl (by omega) (by omega)).mono fun e w' ⟨h1, h2⟩ => ⟨h1, Touch.of_below h2⟩
theorem takK_b {s : ByteArray} {at_ : Int} {k : K} {n : Int} (h : takK s at_ = some (k, n)) : 0 ≤ k.1 ∧ k.1 ≤ 65535 ∧ k.2.size ≤ 64 ∧ 0 ≤ at_ ∧ at_ + 3 ≤ n ∧ n ≤ s.size := by
  by_cases he : at_ < 0 ∨ (s.size : Int) - at_ < 3
  · rw [takK_early he] at h; cases h
  · obtain ⟨j, rfl⟩ : ∃ j : Nat, at_ = (j : Int) := ⟨at_.toNat, by omega⟩
    have hk : j + 3 ≤ s.size := by omega
    rw [takK_at hk] at h
    by_cases h2 : 64 < s[j + 2].toNat ∨ s.size < j + 3 + s[j + 2].toNat
    · rw [if_pos h2] at h; cases h
    · rw [if_neg h2] at h
      cases h
      have p1 : s[j].toNat < 256 := s[j].toNat_lt
      have q1 : s[j + 1].toNat < 256 := s[j + 1].toNat_lt
      refine ⟨by omega, by omega, ?_, by omega, by omega, by omega⟩
      show (s.extract (j + 3) (j + 3 + s[j + 2].toNat)).size ≤ 64
      rw [ByteArray.size_extract]
      omega
end Go.Proofs.YtpefbmheblfbeaaGreat.Sn
