/- The contract of the program's reader's end: the sum of all that stands ahead, behind which nothing is left; the text's length is a number of the language's, the reader stands within the text. -/
import Derived.Test.YtpefbmheblfbeaaGreatQt06
import Derived.Test.YtpefbmheblfbeaaGreatQt07
import Derived.Test.YtpefbmheblfbeaaGreatQt01
import Derived.Deep.RegionHeld3
namespace Go.Proofs.YtpefbmheblfbeaaGreat.Sn
open Go.RowKit Go.Sort Go.Shelf Me
set_option linter.unusedVariables false
set_option linter.unusedSimpArgs false
def midR (s : ByteArray) (x : Rd) : Rd := if (sumR s x).1.er = 0 ∧ (sumR s x).2 ≠ sumL (s.data.toList.take x.at_.toNat) then ⟨x.at_, 201⟩ else (sumR s x).1
def endR (s : ByteArray) (x : Rd) : Rd := passS (midR s x) (midR s x).at_ (decide ((midR s x).at_ = (s.size : Int)))
def finR (s : ByteArray) (x : Rd) : Rd := if x.er ≠ 0 then x else if (s.size : Int) - x.at_ < 8 then ⟨x.at_, 200⟩ else if val8 (s.data.toList.drop x.at_.toNat) ≠ sumL (s.data.toList.take x.at_.toNat) then ⟨x.at_, 201⟩ else if 8 < (s.size : Int) - x.at_ then ⟨x.at_ + 8, 200⟩ else x
theorem end_fin (s : ByteArray) (x : Rd) : (endR s x).er = (finR s x).er ∧ ((finR s x).er ≠ 0 → (endR s x).at_ = (finR s x).at_) := by
  unfold endR midR sumR finR passS passB
  by_cases he : x.er = 0
  · by_cases h8 : 8 ≤ (s.size : Int) - x.at_
    · have h8' : ¬ (s.size : Int) - x.at_ < 8 := by omega
      by_cases hv : val8 (s.data.toList.drop x.at_.toNat) = sumL (s.data.toList.take x.at_.toNat)
      · by_cases h9 : 8 < (s.size : Int) - x.at_
        · have h10 : ¬ x.at_ + 8 = (s.size : Int) := by omega
          simp [he, h8, h8', hv, h9, h10]
        · have h10 : x.at_ + 8 = (s.size : Int) := by omega
          simp [he, h8, h8', hv, h9, h10]
      · simp [he, h8, h8', hv]
    · have h8' : (s.size : Int) - x.at_ < 8 := by omega
      simp [he, h8, h8']
  · simp [he]
set_option maxHeartbeats 4000000 in
theorem end_r {w : World} {r : Nat} {s : ByteArray} {x : Rd} (h : Rq w r s x) (hi : Rin s x) (hs : s.size ≤ 140737488351232) : Calls Tryz.prog 48 #[PT r] w fun e w' => e = .returned (.tuple #[]) ∧ Rq w' r s (endR s x) ∧ Touch [r] w w' := by
  obtain ⟨k, hk⟩ : ∃ k : Nat, x.at_ = (k : Int) := ⟨x.at_.toNat, by have := hi.1; omega⟩
  have hks : k ≤ s.size := by have := hi.2; omega
  have ek : x.at_.toNat = k := by omega
  have HS := hid (sum_r h hi hs)
  have hes : (s.extract 0 k).data.toList = s.data.toList.take k := by rw [extract_data, List.drop_zero]
  have HU : Hid (∀ w', Calls Tryz.prog 79 #[.string (s.extract 0 k)] w' fun e w'' => e = .returned (.int .u64 (sumL (s.data.toList.take k) : Nat)) ∧ w'' = w') := hid (fun w' => by
    have := sumOf_ (s.extract 0 k) (by rw [ByteArray.size_extract]; omega) w'
    rw [hes] at this
    exact this)
  have c1 := cell_of (n := 1) h rfl
  rw [hk] at c1
  have z0 : (0 : Int) ≤ (k : Int) := by omega
  have z1 : (k : Int) ≤ (s.size : Int) := by omega
  have sl : ∀ w, (Instr.slice 9 (.string s) none (some (.int .i64 (k : Int))) none).run Tryz.prog w = .ok (.string (s.extract 0 k)) w := fun w => by go_simp
  have HZ : Hid (∀ Z, Z = midR s x → endR s x = passS Z Z.at_ (decide (Z.at_ = (s.size : Int)))) := hid (fun Z e => by rw [e]; rfl)
  have HM : Hid (midR s x = if (sumR s x).1.er = 0 ∧ (sumR s x).2 ≠ sumL (s.data.toList.take k) then ⟨(k : Int), 201⟩ else (sumR s x).1) := hid (by unfold midR; rw [ek, hk])
  generalize midR s x = MM at *
  generalize endR s x = EE at *
  generalize (sumR s x).1 = y at *
  generalize (sumR s x).2 = v at *
  generalize sumL (s.data.toList.take k) = u at *
  have HQ : Hid (∀ w' Y, Rq w' r s Y → w'.cell? ⟨r, 0, none⟩ = some (.string s) ∧ w'.cell? ⟨r, 1, none⟩ = some (.int .i64 Y.at_) ∧ w'.cell? ⟨r, 2, none⟩ = some (.int .i64 Y.er) ∧ w'.frozen? ⟨r, 1, none⟩ = false ∧ w'.frozen? ⟨r, 2, none⟩ = false) := hid (fun w' Y q => ⟨cell_of (n := 0) q rfl, cell_of (n := 1) q rfl, cell_of (n := 2) q rfl, froz_at q 1, froz_at q 2⟩)
  clear hes hi hs hks ek h hk
  unfold PT at *
  go_enter Tryz.func48, Tryz.ntmps48
  go_upto_region 2 with (go_at_call 65; refine HS.out.mono ?_; rintro e w1 ⟨rfl, q1, t1⟩)
  clear c1
  obtain ⟨d0, d1, d2, f1, f2⟩ := HQ.out w1 y q1
  by_cases he : y.er = 0
  · rw [he] at d2
    by_cases hv : v = u
    · have hb : ((v : Int) != (u : Int)) = false := by rw [hv]; simp
      have HM' : MM = y := by rw [HM.out, if_neg (fun q => q.2 hv)]
      go_upto_region 4 with (go_at_call 79; refine (HU.out _).mono ?_; rintro e w2 ⟨rfl, h2⟩; subst h2)
      clear hv hb d0 d1 d2 f1 f2
      obtain ⟨Z, eZ⟩ : ∃ Z : Rd, Z = y := ⟨_, rfl⟩
      have qZ : Rq (w2).drew r s Z := by rw [eZ]; exact q1
      have TZ : Hid (Touch [r] w (w2).drew) := hid (t1).drew
      have HE := hid (HZ.out Z (by rw [eZ]; exact HM'.symm))
      obtain ⟨C0, C1, _⟩ := HQ.out _ Z qZ
      have HP := hid (pass_ qZ Z.at_ (decide (Z.at_ = (s.size : Int))))
      have hD : (Z.at_ == (s.size : Int)) = decide (Z.at_ = (s.size : Int)) := by rw [Bool.eq_iff_iff]; simp
      skip
      generalize passB Z (decide (Z.at_ = (s.size : Int))) = B' at *
      generalize passS Z Z.at_ (decide (Z.at_ = (s.size : Int))) = P' at *
      generalize decide (Z.at_ = (s.size : Int)) = D at *
      refine wp_region_H (S := fun _ => True) (by kernel_rfl) ?_
      unfold PT at HP
      generalize (w2).drew = Wd at *
      clear HQ HU sl HZ HM eZ
      refine wpH_take (i := 0) (v := (.pointer (some ⟨r, 0, none⟩))) (some 33) rfl rfl (by kernel_rfl) (by kernel_rfl) (by kernel_rfl) (fun _ _ _ h => h) (Or.inl ⟨by rfl, fun w' hS => (by go_simp)⟩) trivial ?_
      try simp only [Go.Act.put, List.setIfInBounds_toArray, List.set_cons_zero, List.set_cons_succ]
      refine wpH_take (i := 1) (v := (.pointer (some ⟨r, 0, none⟩))) (some 34) rfl rfl (by kernel_rfl) (by kernel_rfl) (by kernel_rfl) (fun _ _ _ h => h) (Or.inl ⟨by rfl, fun w' hS => (by go_simp)⟩) trivial ?_
      try simp only [Go.Act.put, List.setIfInBounds_toArray, List.set_cons_zero, List.set_cons_succ]
      refine wpH_take (i := 2) (v := (.pointer (some ⟨r, 0, none⟩))) (some 35) rfl rfl (by kernel_rfl) (by kernel_rfl) (by kernel_rfl) (fun _ _ _ h => h) (Or.inl ⟨by rfl, fun w' hS => (by go_simp)⟩) trivial ?_
      try simp only [Go.Act.put, List.setIfInBounds_toArray, List.set_cons_zero, List.set_cons_succ]
      refine wpH_take (i := 3) (v := (.pointer (some ⟨r, 1, none⟩))) (some 36) rfl rfl (by kernel_rfl) (by kernel_rfl) (by kernel_rfl) (fun _ _ _ h => h) (Or.inl ⟨by rfl, fun w' hS => (by go_simp)⟩) trivial ?_
      try simp only [Go.Act.put, List.setIfInBounds_toArray, List.set_cons_zero, List.set_cons_succ]
      refine wpH_take (i := 5) (v := (.pointer (some ⟨r, 0, none⟩))) (some 38) rfl rfl (by kernel_rfl) (by kernel_rfl) (by kernel_rfl) (fun _ _ _ h => h) (Or.inl ⟨by rfl, fun w' hS => (by go_simp)⟩) trivial ?_
      try simp only [Go.Act.put, List.setIfInBounds_toArray, List.set_cons_zero, List.set_cons_succ]
      refine wpH_take (i := 6) (v := (.pointer (some ⟨r, 0, none⟩))) (some 39) rfl rfl (by kernel_rfl) (by kernel_rfl) (by kernel_rfl) (fun _ _ _ h => h) (Or.inl ⟨by rfl, fun w' hS => (by go_simp)⟩) trivial ?_
      try simp only [Go.Act.put, List.setIfInBounds_toArray, List.set_cons_zero, List.set_cons_succ]
      refine wpH_take (i := 7) (v := (.pointer (some ⟨r, 1, none⟩))) (some 40) rfl rfl (by kernel_rfl) (by kernel_rfl) (by kernel_rfl) (fun _ _ _ h => h) (Or.inl ⟨by rfl, fun w' hS => (by go_simp)⟩) trivial ?_
      try simp only [Go.Act.put, List.setIfInBounds_toArray, List.set_cons_zero, List.set_cons_succ]
      refine wpH_take (i := 9) (v := (.pointer (some ⟨r, 0, none⟩))) (some 42) rfl rfl (by kernel_rfl) (by kernel_rfl) (by kernel_rfl) (fun _ _ _ h => h) (Or.inl ⟨by rfl, fun w' hS => (by go_simp)⟩) trivial ?_
      try simp only [Go.Act.put, List.setIfInBounds_toArray, List.set_cons_zero, List.set_cons_succ]
      refine wpH_take (i := 10) (v := (.pointer (some ⟨r, 0, none⟩))) (some 43) rfl rfl (by kernel_rfl) (by kernel_rfl) (by kernel_rfl) (fun _ _ _ h => h) (Or.inl ⟨by rfl, fun w' hS => (by go_simp)⟩) trivial ?_
      try simp only [Go.Act.put, List.setIfInBounds_toArray, List.set_cons_zero, List.set_cons_succ]
      refine wpH_take (i := 11) (v := (.pointer (some ⟨r, 0, none⟩))) (some 44) rfl rfl (by kernel_rfl) (by kernel_rfl) (by kernel_rfl) (fun _ _ _ h => h) (Or.inl ⟨by rfl, fun w' hS => (by go_simp)⟩) trivial ?_
      try simp only [Go.Act.put, List.setIfInBounds_toArray, List.set_cons_zero, List.set_cons_succ]
      refine wpH_ready (rs := [4, 8, 12]) (by kernel_rfl) (by simp) ?_
      refine AllH.cons (o := { dst := some 37, op := Op.load 3 (Operand.tmp 36), type := 3, pos := _, after := #[{ on := 3, ground := Ground.data }], guard := none }) rfl (fun K' hK => ?_) ?_
      · rw [if_pos (by rfl)]
        have z1 := C1
        go_simp
        clear z1
        refine hK.out _ _ trivial ?_
        clear hK
        try simp only [Go.Act.put, List.setIfInBounds_toArray, List.set_cons_zero, List.set_cons_succ]
        refine wpH_ready (rs := [8, 12]) (by kernel_rfl) (by simp) ?_
        refine AllH.cons (o := { dst := some 41, op := Op.load 3 (Operand.tmp 40), type := 3, pos := _, after := #[{ on := 7, ground := Ground.data }], guard := none }) rfl (fun K' hK => ?_) ?_
        · rw [if_pos (by rfl)]
          have z2 := C1
          go_simp
          clear z2
          refine hK.out _ _ trivial ?_
          clear hK
          try simp only [Go.Act.put, List.setIfInBounds_toArray, List.set_cons_zero, List.set_cons_succ]
          refine wpH_call (i := 12) (o := { dst := some 45, op := Op.load 9 (Operand.tmp 44), type := 9, pos := _, after := #[{ on := 11, ground := Ground.data }], guard := none }) (by kernel_rfl) rfl (fun K' hK => ?_)
          rw [if_pos (by rfl)]
          have z3 := C0
          go_simp
          clear z3
          refine hK.out _ _ trivial ?_
          clear hK
          try simp only [Go.Act.put, List.setIfInBounds_toArray, List.set_cons_zero, List.set_cons_succ]
          refine wpH_take (i := 13) (v := (.int .i64 (s.size : Int))) (some 46) rfl rfl (by kernel_rfl) (by kernel_rfl) (by kernel_rfl) (fun _ _ _ h => h) (Or.inl ⟨by rfl, fun w' hS => (by go_simp)⟩) trivial ?_
          try simp only [Go.Act.put, List.setIfInBounds_toArray, List.set_cons_zero, List.set_cons_succ]
          refine wpH_take (i := 14) (v := (.bool D)) (some 47) rfl rfl (by kernel_rfl) (by kernel_rfl) (by kernel_rfl) (fun _ _ _ h => h) (Or.inl ⟨by rfl, fun w' hS => (by go_simp)⟩) trivial ?_
          try simp only [Go.Act.put, List.setIfInBounds_toArray, List.set_cons_zero, List.set_cons_succ]
          refine wpH_call (i := 15) (o := { dst := some 48, op := Op.call { callee := Callee.value (Operand.func 92), args := #[Operand.tmp 33, Operand.tmp 37, Operand.tmp 47], argTypes := #[106, 3, 4] }, type := 4, pos := _, after := #[{ on := 0, ground := Ground.data }, { on := 4, ground := Ground.data }, { on := 14, ground := Ground.data }], guard := none }) (by kernel_rfl) rfl (fun K' hK => ?_)
          rw [if_pos (by rfl)]
          go_simp
          refine HP.out.mono ?_
          rintro e v4 ⟨rfl, q2, t2⟩
          refine hK.out _ _ trivial ?_
          clear hK
          try simp only [Go.Act.put, List.setIfInBounds_toArray, List.set_cons_zero, List.set_cons_succ]
          refine wpAnyH_done (by kernel_rfl) ?_ _
          go_wp2_with fail
          go_end0
          exact ⟨rfl, by rw [HE.out]; exact q2, TZ.out.trans' t2⟩
        refine AllH.cons (o := { dst := some 45, op := Op.load 9 (Operand.tmp 44), type := 9, pos := _, after := #[{ on := 11, ground := Ground.data }], guard := none }) rfl (fun K' hK => ?_) ?_
        · rw [if_pos (by rfl)]
          have z5 := C0
          go_simp
          clear z5
          refine hK.out _ _ trivial ?_
          clear hK
          try simp only [Go.Act.put, List.setIfInBounds_toArray, List.set_cons_zero, List.set_cons_succ]
          refine wpH_take (i := 13) (v := (.int .i64 (s.size : Int))) (some 46) rfl rfl (by kernel_rfl) (by kernel_rfl) (by kernel_rfl) (fun _ _ _ h => h) (Or.inl ⟨by rfl, fun w' hS => (by go_simp)⟩) trivial ?_
          try simp only [Go.Act.put, List.setIfInBounds_toArray, List.set_cons_zero, List.set_cons_succ]
          refine wpH_call (i := 8) (o := { dst := some 41, op := Op.load 3 (Operand.tmp 40), type := 3, pos := _, after := #[{ on := 7, ground := Ground.data }], guard := none }) (by kernel_rfl) rfl (fun K' hK => ?_)
          rw [if_pos (by rfl)]
          have z6 := C1
          go_simp
          clear z6
          refine hK.out _ _ trivial ?_
          clear hK
          try simp only [Go.Act.put, List.setIfInBounds_toArray, List.set_cons_zero, List.set_cons_succ]
          refine wpH_take (i := 14) (v := (.bool D)) (some 47) rfl rfl (by kernel_rfl) (by kernel_rfl) (by kernel_rfl) (fun _ _ _ h => h) (Or.inl ⟨by rfl, fun w' hS => (by go_simp)⟩) trivial ?_
          try simp only [Go.Act.put, List.setIfInBounds_toArray, List.set_cons_zero, List.set_cons_succ]
          refine wpH_call (i := 15) (o := { dst := some 48, op := Op.call { callee := Callee.value (Operand.func 92), args := #[Operand.tmp 33, Operand.tmp 37, Operand.tmp 47], argTypes := #[106, 3, 4] }, type := 4, pos := _, after := #[{ on := 0, ground := Ground.data }, { on := 4, ground := Ground.data }, { on := 14, ground := Ground.data }], guard := none }) (by kernel_rfl) rfl (fun K' hK => ?_)
          rw [if_pos (by rfl)]
          go_simp
          refine HP.out.mono ?_
          rintro e v7 ⟨rfl, q2, t2⟩
          refine hK.out _ _ trivial ?_
          clear hK
          try simp only [Go.Act.put, List.setIfInBounds_toArray, List.set_cons_zero, List.set_cons_succ]
          refine wpAnyH_done (by kernel_rfl) ?_ _
          go_wp2_with fail
          go_end0
          exact ⟨rfl, by rw [HE.out]; exact q2, TZ.out.trans' t2⟩
        exact AllH.nil
      refine AllH.cons (o := { dst := some 41, op := Op.load 3 (Operand.tmp 40), type := 3, pos := _, after := #[{ on := 7, ground := Ground.data }], guard := none }) rfl (fun K' hK => ?_) ?_
      · rw [if_pos (by rfl)]
        have z8 := C1
        go_simp
        clear z8
        refine hK.out _ _ trivial ?_
        clear hK
        try simp only [Go.Act.put, List.setIfInBounds_toArray, List.set_cons_zero, List.set_cons_succ]
        refine wpH_ready (rs := [4, 12]) (by kernel_rfl) (by simp) ?_
        refine AllH.cons (o := { dst := some 37, op := Op.load 3 (Operand.tmp 36), type := 3, pos := _, after := #[{ on := 3, ground := Ground.data }], guard := none }) rfl (fun K' hK => ?_) ?_
        · rw [if_pos (by rfl)]
          have z9 := C1
          go_simp
          clear z9
          refine hK.out _ _ trivial ?_
          clear hK
          try simp only [Go.Act.put, List.setIfInBounds_toArray, List.set_cons_zero, List.set_cons_succ]
          refine wpH_call (i := 12) (o := { dst := some 45, op := Op.load 9 (Operand.tmp 44), type := 9, pos := _, after := #[{ on := 11, ground := Ground.data }], guard := none }) (by kernel_rfl) rfl (fun K' hK => ?_)
          rw [if_pos (by rfl)]
          have z10 := C0
          go_simp
          clear z10
          refine hK.out _ _ trivial ?_
          clear hK
          try simp only [Go.Act.put, List.setIfInBounds_toArray, List.set_cons_zero, List.set_cons_succ]
          refine wpH_take (i := 13) (v := (.int .i64 (s.size : Int))) (some 46) rfl rfl (by kernel_rfl) (by kernel_rfl) (by kernel_rfl) (fun _ _ _ h => h) (Or.inl ⟨by rfl, fun w' hS => (by go_simp)⟩) trivial ?_
          try simp only [Go.Act.put, List.setIfInBounds_toArray, List.set_cons_zero, List.set_cons_succ]
          refine wpH_take (i := 14) (v := (.bool D)) (some 47) rfl rfl (by kernel_rfl) (by kernel_rfl) (by kernel_rfl) (fun _ _ _ h => h) (Or.inl ⟨by rfl, fun w' hS => (by go_simp)⟩) trivial ?_
          try simp only [Go.Act.put, List.setIfInBounds_toArray, List.set_cons_zero, List.set_cons_succ]
          refine wpH_call (i := 15) (o := { dst := some 48, op := Op.call { callee := Callee.value (Operand.func 92), args := #[Operand.tmp 33, Operand.tmp 37, Operand.tmp 47], argTypes := #[106, 3, 4] }, type := 4, pos := _, after := #[{ on := 0, ground := Ground.data }, { on := 4, ground := Ground.data }, { on := 14, ground := Ground.data }], guard := none }) (by kernel_rfl) rfl (fun K' hK => ?_)
          rw [if_pos (by rfl)]
          go_simp
          refine HP.out.mono ?_
          rintro e v11 ⟨rfl, q2, t2⟩
          refine hK.out _ _ trivial ?_
          clear hK
          try simp only [Go.Act.put, List.setIfInBounds_toArray, List.set_cons_zero, List.set_cons_succ]
          refine wpAnyH_done (by kernel_rfl) ?_ _
          go_wp2_with fail
          go_end0
          exact ⟨rfl, by rw [HE.out]; exact q2, TZ.out.trans' t2⟩
        refine AllH.cons (o := { dst := some 45, op := Op.load 9 (Operand.tmp 44), type := 9, pos := _, after := #[{ on := 11, ground := Ground.data }], guard := none }) rfl (fun K' hK => ?_) ?_
        · rw [if_pos (by rfl)]
          have z12 := C0
          go_simp
          clear z12
          refine hK.out _ _ trivial ?_
          clear hK
          try simp only [Go.Act.put, List.setIfInBounds_toArray, List.set_cons_zero, List.set_cons_succ]
          refine wpH_take (i := 13) (v := (.int .i64 (s.size : Int))) (some 46) rfl rfl (by kernel_rfl) (by kernel_rfl) (by kernel_rfl) (fun _ _ _ h => h) (Or.inl ⟨by rfl, fun w' hS => (by go_simp)⟩) trivial ?_
          try simp only [Go.Act.put, List.setIfInBounds_toArray, List.set_cons_zero, List.set_cons_succ]
          refine wpH_take (i := 14) (v := (.bool D)) (some 47) rfl rfl (by kernel_rfl) (by kernel_rfl) (by kernel_rfl) (fun _ _ _ h => h) (Or.inl ⟨by rfl, fun w' hS => (by go_simp)⟩) trivial ?_
          try simp only [Go.Act.put, List.setIfInBounds_toArray, List.set_cons_zero, List.set_cons_succ]
          refine wpH_call (i := 4) (o := { dst := some 37, op := Op.load 3 (Operand.tmp 36), type := 3, pos := _, after := #[{ on := 3, ground := Ground.data }], guard := none }) (by kernel_rfl) rfl (fun K' hK => ?_)
          rw [if_pos (by rfl)]
          have z13 := C1
          go_simp
          clear z13
          refine hK.out _ _ trivial ?_
          clear hK
          try simp only [Go.Act.put, List.setIfInBounds_toArray, List.set_cons_zero, List.set_cons_succ]
          refine wpH_call (i := 15) (o := { dst := some 48, op := Op.call { callee := Callee.value (Operand.func 92), args := #[Operand.tmp 33, Operand.tmp 37, Operand.tmp 47], argTypes := #[106, 3, 4] }, type := 4, pos := _, after := #[{ on := 0, ground := Ground.data }, { on := 4, ground := Ground.data }, { on := 14, ground := Ground.data }], guard := none }) (by kernel_rfl) rfl (fun K' hK => ?_)
          rw [if_pos (by rfl)]
          go_simp
          refine HP.out.mono ?_
          rintro e v14 ⟨rfl, q2, t2⟩
          refine hK.out _ _ trivial ?_
          clear hK
          try simp only [Go.Act.put, List.setIfInBounds_toArray, List.set_cons_zero, List.set_cons_succ]
          refine wpAnyH_done (by kernel_rfl) ?_ _
          go_wp2_with fail
          go_end0
          exact ⟨rfl, by rw [HE.out]; exact q2, TZ.out.trans' t2⟩
        exact AllH.nil
      refine AllH.cons (o := { dst := some 45, op := Op.load 9 (Operand.tmp 44), type := 9, pos := _, after := #[{ on := 11, ground := Ground.data }], guard := none }) rfl (fun K' hK => ?_) ?_
      · rw [if_pos (by rfl)]
        have z15 := C0
        go_simp
        clear z15
        refine hK.out _ _ trivial ?_
        clear hK
        try simp only [Go.Act.put, List.setIfInBounds_toArray, List.set_cons_zero, List.set_cons_succ]
        refine wpH_take (i := 13) (v := (.int .i64 (s.size : Int))) (some 46) rfl rfl (by kernel_rfl) (by kernel_rfl) (by kernel_rfl) (fun _ _ _ h => h) (Or.inl ⟨by rfl, fun w' hS => (by go_simp)⟩) trivial ?_
        try simp only [Go.Act.put, List.setIfInBounds_toArray, List.set_cons_zero, List.set_cons_succ]
        refine wpH_ready (rs := [4, 8]) (by kernel_rfl) (by simp) ?_
        refine AllH.cons (o := { dst := some 37, op := Op.load 3 (Operand.tmp 36), type := 3, pos := _, after := #[{ on := 3, ground := Ground.data }], guard := none }) rfl (fun K' hK => ?_) ?_
        · rw [if_pos (by rfl)]
          have z16 := C1
          go_simp
          clear z16
          refine hK.out _ _ trivial ?_
          clear hK
          try simp only [Go.Act.put, List.setIfInBounds_toArray, List.set_cons_zero, List.set_cons_succ]
          refine wpH_call (i := 8) (o := { dst := some 41, op := Op.load 3 (Operand.tmp 40), type := 3, pos := _, after := #[{ on := 7, ground := Ground.data }], guard := none }) (by kernel_rfl) rfl (fun K' hK => ?_)
          rw [if_pos (by rfl)]
          have z17 := C1
          go_simp
          clear z17
          refine hK.out _ _ trivial ?_
          clear hK
          try simp only [Go.Act.put, List.setIfInBounds_toArray, List.set_cons_zero, List.set_cons_succ]
          refine wpH_take (i := 14) (v := (.bool D)) (some 47) rfl rfl (by kernel_rfl) (by kernel_rfl) (by kernel_rfl) (fun _ _ _ h => h) (Or.inl ⟨by rfl, fun w' hS => (by go_simp)⟩) trivial ?_
          try simp only [Go.Act.put, List.setIfInBounds_toArray, List.set_cons_zero, List.set_cons_succ]
          refine wpH_call (i := 15) (o := { dst := some 48, op := Op.call { callee := Callee.value (Operand.func 92), args := #[Operand.tmp 33, Operand.tmp 37, Operand.tmp 47], argTypes := #[106, 3, 4] }, type := 4, pos := _, after := #[{ on := 0, ground := Ground.data }, { on := 4, ground := Ground.data }, { on := 14, ground := Ground.data }], guard := none }) (by kernel_rfl) rfl (fun K' hK => ?_)
          rw [if_pos (by rfl)]
          go_simp
          refine HP.out.mono ?_
          rintro e v18 ⟨rfl, q2, t2⟩
          refine hK.out _ _ trivial ?_
          clear hK
          try simp only [Go.Act.put, List.setIfInBounds_toArray, List.set_cons_zero, List.set_cons_succ]
          refine wpAnyH_done (by kernel_rfl) ?_ _
          go_wp2_with fail
          go_end0
          exact ⟨rfl, by rw [HE.out]; exact q2, TZ.out.trans' t2⟩
        refine AllH.cons (o := { dst := some 41, op := Op.load 3 (Operand.tmp 40), type := 3, pos := _, after := #[{ on := 7, ground := Ground.data }], guard := none }) rfl (fun K' hK => ?_) ?_
        · rw [if_pos (by rfl)]
          have z19 := C1
          go_simp
          clear z19
          refine hK.out _ _ trivial ?_
          clear hK
          try simp only [Go.Act.put, List.setIfInBounds_toArray, List.set_cons_zero, List.set_cons_succ]
          refine wpH_take (i := 14) (v := (.bool D)) (some 47) rfl rfl (by kernel_rfl) (by kernel_rfl) (by kernel_rfl) (fun _ _ _ h => h) (Or.inl ⟨by rfl, fun w' hS => (by go_simp)⟩) trivial ?_
          try simp only [Go.Act.put, List.setIfInBounds_toArray, List.set_cons_zero, List.set_cons_succ]
          refine wpH_call (i := 4) (o := { dst := some 37, op := Op.load 3 (Operand.tmp 36), type := 3, pos := _, after := #[{ on := 3, ground := Ground.data }], guard := none }) (by kernel_rfl) rfl (fun K' hK => ?_)
          rw [if_pos (by rfl)]
          have z20 := C1
          go_simp
          clear z20
          refine hK.out _ _ trivial ?_
          clear hK
          try simp only [Go.Act.put, List.setIfInBounds_toArray, List.set_cons_zero, List.set_cons_succ]
          refine wpH_call (i := 15) (o := { dst := some 48, op := Op.call { callee := Callee.value (Operand.func 92), args := #[Operand.tmp 33, Operand.tmp 37, Operand.tmp 47], argTypes := #[106, 3, 4] }, type := 4, pos := _, after := #[{ on := 0, ground := Ground.data }, { on := 4, ground := Ground.data }, { on := 14, ground := Ground.data }], guard := none }) (by kernel_rfl) rfl (fun K' hK => ?_)
          rw [if_pos (by rfl)]
          go_simp
          refine HP.out.mono ?_
          rintro e v21 ⟨rfl, q2, t2⟩
          refine hK.out _ _ trivial ?_
          clear hK
          try simp only [Go.Act.put, List.setIfInBounds_toArray, List.set_cons_zero, List.set_cons_succ]
          refine wpAnyH_done (by kernel_rfl) ?_ _
          go_wp2_with fail
          go_end0
          exact ⟨rfl, by rw [HE.out]; exact q2, TZ.out.trans' t2⟩
        exact AllH.nil
      exact AllH.nil
    · have hb : ((v : Int) != (u : Int)) = true := by simp; omega
      have HM' : MM = ⟨(k : Int), 201⟩ := by rw [HM.out, if_pos ⟨he, hv⟩]
      go_upto_region 4 with (go_at_call 79; refine (HU.out _).mono ?_; rintro e w2 ⟨rfl, h2⟩; subst h2)
      clear hv hb d0 d1 d2 f1 f2
      obtain ⟨Z, eZ⟩ : ∃ Z : Rd, Z = (⟨(k : Int), 201⟩ : Rd) := ⟨_, rfl⟩
      have qZ : Rq ((w2.setCell ⟨r, 1, none⟩ (.int .i64 (k : Int))).setCell ⟨r, 2, none⟩ (.int .i64 201)).drew r s Z := by rw [eZ]; exact bset (i := 2) (bset (i := 1) q1 (.int .i64 (k : Int))) (.int .i64 201)
      have TZ : Hid (Touch [r] w ((w2.setCell ⟨r, 1, none⟩ (.int .i64 (k : Int))).setCell ⟨r, 2, none⟩ (.int .i64 201)).drew) := hid ((t1.setCell (Or.inl (by simp)) _).setCell (Or.inl (by simp)) _).drew
      have HE := hid (HZ.out Z (by rw [eZ]; exact HM'.symm))
      obtain ⟨C0, C1, _⟩ := HQ.out _ Z qZ
      have HP := hid (pass_ qZ Z.at_ (decide (Z.at_ = (s.size : Int))))
      have hD : (Z.at_ == (s.size : Int)) = decide (Z.at_ = (s.size : Int)) := by rw [Bool.eq_iff_iff]; simp
      skip
      generalize passB Z (decide (Z.at_ = (s.size : Int))) = B' at *
      generalize passS Z Z.at_ (decide (Z.at_ = (s.size : Int))) = P' at *
      generalize decide (Z.at_ = (s.size : Int)) = D at *
      refine wp_region_H (S := fun _ => True) (by kernel_rfl) ?_
      unfold PT at HP
      generalize ((w2.setCell ⟨r, 1, none⟩ (.int .i64 (k : Int))).setCell ⟨r, 2, none⟩ (.int .i64 201)).drew = Wd at *
      clear HQ HU sl HZ HM eZ
      refine wpH_take (i := 0) (v := (.pointer (some ⟨r, 0, none⟩))) (some 33) rfl rfl (by kernel_rfl) (by kernel_rfl) (by kernel_rfl) (fun _ _ _ h => h) (Or.inl ⟨by rfl, fun w' hS => (by go_simp)⟩) trivial ?_
      try simp only [Go.Act.put, List.setIfInBounds_toArray, List.set_cons_zero, List.set_cons_succ]
      refine wpH_take (i := 1) (v := (.pointer (some ⟨r, 0, none⟩))) (some 34) rfl rfl (by kernel_rfl) (by kernel_rfl) (by kernel_rfl) (fun _ _ _ h => h) (Or.inl ⟨by rfl, fun w' hS => (by go_simp)⟩) trivial ?_
      try simp only [Go.Act.put, List.setIfInBounds_toArray, List.set_cons_zero, List.set_cons_succ]
      refine wpH_take (i := 2) (v := (.pointer (some ⟨r, 0, none⟩))) (some 35) rfl rfl (by kernel_rfl) (by kernel_rfl) (by kernel_rfl) (fun _ _ _ h => h) (Or.inl ⟨by rfl, fun w' hS => (by go_simp)⟩) trivial ?_
      try simp only [Go.Act.put, List.setIfInBounds_toArray, List.set_cons_zero, List.set_cons_succ]
      refine wpH_take (i := 3) (v := (.pointer (some ⟨r, 1, none⟩))) (some 36) rfl rfl (by kernel_rfl) (by kernel_rfl) (by kernel_rfl) (fun _ _ _ h => h) (Or.inl ⟨by rfl, fun w' hS => (by go_simp)⟩) trivial ?_
      try simp only [Go.Act.put, List.setIfInBounds_toArray, List.set_cons_zero, List.set_cons_succ]
      refine wpH_take (i := 5) (v := (.pointer (some ⟨r, 0, none⟩))) (some 38) rfl rfl (by kernel_rfl) (by kernel_rfl) (by kernel_rfl) (fun _ _ _ h => h) (Or.inl ⟨by rfl, fun w' hS => (by go_simp)⟩) trivial ?_
      try simp only [Go.Act.put, List.setIfInBounds_toArray, List.set_cons_zero, List.set_cons_succ]
      refine wpH_take (i := 6) (v := (.pointer (some ⟨r, 0, none⟩))) (some 39) rfl rfl (by kernel_rfl) (by kernel_rfl) (by kernel_rfl) (fun _ _ _ h => h) (Or.inl ⟨by rfl, fun w' hS => (by go_simp)⟩) trivial ?_
      try simp only [Go.Act.put, List.setIfInBounds_toArray, List.set_cons_zero, List.set_cons_succ]
      refine wpH_take (i := 7) (v := (.pointer (some ⟨r, 1, none⟩))) (some 40) rfl rfl (by kernel_rfl) (by kernel_rfl) (by kernel_rfl) (fun _ _ _ h => h) (Or.inl ⟨by rfl, fun w' hS => (by go_simp)⟩) trivial ?_
      try simp only [Go.Act.put, List.setIfInBounds_toArray, List.set_cons_zero, List.set_cons_succ]
      refine wpH_take (i := 9) (v := (.pointer (some ⟨r, 0, none⟩))) (some 42) rfl rfl (by kernel_rfl) (by kernel_rfl) (by kernel_rfl) (fun _ _ _ h => h) (Or.inl ⟨by rfl, fun w' hS => (by go_simp)⟩) trivial ?_
      try simp only [Go.Act.put, List.setIfInBounds_toArray, List.set_cons_zero, List.set_cons_succ]
      refine wpH_take (i := 10) (v := (.pointer (some ⟨r, 0, none⟩))) (some 43) rfl rfl (by kernel_rfl) (by kernel_rfl) (by kernel_rfl) (fun _ _ _ h => h) (Or.inl ⟨by rfl, fun w' hS => (by go_simp)⟩) trivial ?_
      try simp only [Go.Act.put, List.setIfInBounds_toArray, List.set_cons_zero, List.set_cons_succ]
      refine wpH_take (i := 11) (v := (.pointer (some ⟨r, 0, none⟩))) (some 44) rfl rfl (by kernel_rfl) (by kernel_rfl) (by kernel_rfl) (fun _ _ _ h => h) (Or.inl ⟨by rfl, fun w' hS => (by go_simp)⟩) trivial ?_
      try simp only [Go.Act.put, List.setIfInBounds_toArray, List.set_cons_zero, List.set_cons_succ]
      refine wpH_ready (rs := [4, 8, 12]) (by kernel_rfl) (by simp) ?_
      refine AllH.cons (o := { dst := some 37, op := Op.load 3 (Operand.tmp 36), type := 3, pos := _, after := #[{ on := 3, ground := Ground.data }], guard := none }) rfl (fun K' hK => ?_) ?_
      · rw [if_pos (by rfl)]
        have z1 := C1
        go_simp
        clear z1
        refine hK.out _ _ trivial ?_
        clear hK
        try simp only [Go.Act.put, List.setIfInBounds_toArray, List.set_cons_zero, List.set_cons_succ]
        refine wpH_ready (rs := [8, 12]) (by kernel_rfl) (by simp) ?_
        refine AllH.cons (o := { dst := some 41, op := Op.load 3 (Operand.tmp 40), type := 3, pos := _, after := #[{ on := 7, ground := Ground.data }], guard := none }) rfl (fun K' hK => ?_) ?_
        · rw [if_pos (by rfl)]
          have z2 := C1
          go_simp
          clear z2
          refine hK.out _ _ trivial ?_
          clear hK
          try simp only [Go.Act.put, List.setIfInBounds_toArray, List.set_cons_zero, List.set_cons_succ]
          refine wpH_call (i := 12) (o := { dst := some 45, op := Op.load 9 (Operand.tmp 44), type := 9, pos := _, after := #[{ on := 11, ground := Ground.data }], guard := none }) (by kernel_rfl) rfl (fun K' hK => ?_)
          rw [if_pos (by rfl)]
          have z3 := C0
          go_simp
          clear z3
          refine hK.out _ _ trivial ?_
          clear hK
          try simp only [Go.Act.put, List.setIfInBounds_toArray, List.set_cons_zero, List.set_cons_succ]
          refine wpH_take (i := 13) (v := (.int .i64 (s.size : Int))) (some 46) rfl rfl (by kernel_rfl) (by kernel_rfl) (by kernel_rfl) (fun _ _ _ h => h) (Or.inl ⟨by rfl, fun w' hS => (by go_simp)⟩) trivial ?_
          try simp only [Go.Act.put, List.setIfInBounds_toArray, List.set_cons_zero, List.set_cons_succ]
          refine wpH_take (i := 14) (v := (.bool D)) (some 47) rfl rfl (by kernel_rfl) (by kernel_rfl) (by kernel_rfl) (fun _ _ _ h => h) (Or.inl ⟨by rfl, fun w' hS => (by go_simp)⟩) trivial ?_
          try simp only [Go.Act.put, List.setIfInBounds_toArray, List.set_cons_zero, List.set_cons_succ]
          refine wpH_call (i := 15) (o := { dst := some 48, op := Op.call { callee := Callee.value (Operand.func 92), args := #[Operand.tmp 33, Operand.tmp 37, Operand.tmp 47], argTypes := #[106, 3, 4] }, type := 4, pos := _, after := #[{ on := 0, ground := Ground.data }, { on := 4, ground := Ground.data }, { on := 14, ground := Ground.data }], guard := none }) (by kernel_rfl) rfl (fun K' hK => ?_)
          rw [if_pos (by rfl)]
          go_simp
          refine HP.out.mono ?_
          rintro e v4 ⟨rfl, q2, t2⟩
          refine hK.out _ _ trivial ?_
          clear hK
          try simp only [Go.Act.put, List.setIfInBounds_toArray, List.set_cons_zero, List.set_cons_succ]
          refine wpAnyH_done (by kernel_rfl) ?_ _
          go_wp2_with fail
          go_end0
          exact ⟨rfl, by rw [HE.out]; exact q2, TZ.out.trans' t2⟩
        refine AllH.cons (o := { dst := some 45, op := Op.load 9 (Operand.tmp 44), type := 9, pos := _, after := #[{ on := 11, ground := Ground.data }], guard := none }) rfl (fun K' hK => ?_) ?_
        · rw [if_pos (by rfl)]
          have z5 := C0
          go_simp
          clear z5
          refine hK.out _ _ trivial ?_
          clear hK
          try simp only [Go.Act.put, List.setIfInBounds_toArray, List.set_cons_zero, List.set_cons_succ]
          refine wpH_take (i := 13) (v := (.int .i64 (s.size : Int))) (some 46) rfl rfl (by kernel_rfl) (by kernel_rfl) (by kernel_rfl) (fun _ _ _ h => h) (Or.inl ⟨by rfl, fun w' hS => (by go_simp)⟩) trivial ?_
          try simp only [Go.Act.put, List.setIfInBounds_toArray, List.set_cons_zero, List.set_cons_succ]
          refine wpH_call (i := 8) (o := { dst := some 41, op := Op.load 3 (Operand.tmp 40), type := 3, pos := _, after := #[{ on := 7, ground := Ground.data }], guard := none }) (by kernel_rfl) rfl (fun K' hK => ?_)
          rw [if_pos (by rfl)]
          have z6 := C1
          go_simp
          clear z6
          refine hK.out _ _ trivial ?_
          clear hK
          try simp only [Go.Act.put, List.setIfInBounds_toArray, List.set_cons_zero, List.set_cons_succ]
          refine wpH_take (i := 14) (v := (.bool D)) (some 47) rfl rfl (by kernel_rfl) (by kernel_rfl) (by kernel_rfl) (fun _ _ _ h => h) (Or.inl ⟨by rfl, fun w' hS => (by go_simp)⟩) trivial ?_
          try simp only [Go.Act.put, List.setIfInBounds_toArray, List.set_cons_zero, List.set_cons_succ]
          refine wpH_call (i := 15) (o := { dst := some 48, op := Op.call { callee := Callee.value (Operand.func 92), args := #[Operand.tmp 33, Operand.tmp 37, Operand.tmp 47], argTypes := #[106, 3, 4] }, type := 4, pos := _, after := #[{ on := 0, ground := Ground.data }, { on := 4, ground := Ground.data }, { on := 14, ground := Ground.data }], guard := none }) (by kernel_rfl) rfl (fun K' hK => ?_)
          rw [if_pos (by rfl)]
          go_simp
          refine HP.out.mono ?_
          rintro e v7 ⟨rfl, q2, t2⟩
          refine hK.out _ _ trivial ?_
          clear hK
          try simp only [Go.Act.put, List.setIfInBounds_toArray, List.set_cons_zero, List.set_cons_succ]
          refine wpAnyH_done (by kernel_rfl) ?_ _
          go_wp2_with fail
          go_end0
          exact ⟨rfl, by rw [HE.out]; exact q2, TZ.out.trans' t2⟩
        exact AllH.nil
      refine AllH.cons (o := { dst := some 41, op := Op.load 3 (Operand.tmp 40), type := 3, pos := _, after := #[{ on := 7, ground := Ground.data }], guard := none }) rfl (fun K' hK => ?_) ?_
      · rw [if_pos (by rfl)]
        have z8 := C1
        go_simp
        clear z8
        refine hK.out _ _ trivial ?_
        clear hK
        try simp only [Go.Act.put, List.setIfInBounds_toArray, List.set_cons_zero, List.set_cons_succ]
        refine wpH_ready (rs := [4, 12]) (by kernel_rfl) (by simp) ?_
        refine AllH.cons (o := { dst := some 37, op := Op.load 3 (Operand.tmp 36), type := 3, pos := _, after := #[{ on := 3, ground := Ground.data }], guard := none }) rfl (fun K' hK => ?_) ?_
        · rw [if_pos (by rfl)]
          have z9 := C1
          go_simp
          clear z9
          refine hK.out _ _ trivial ?_
          clear hK
          try simp only [Go.Act.put, List.setIfInBounds_toArray, List.set_cons_zero, List.set_cons_succ]
          refine wpH_call (i := 12) (o := { dst := some 45, op := Op.load 9 (Operand.tmp 44), type := 9, pos := _, after := #[{ on := 11, ground := Ground.data }], guard := none }) (by kernel_rfl) rfl (fun K' hK => ?_)
          rw [if_pos (by rfl)]
          have z10 := C0
          go_simp
          clear z10
          refine hK.out _ _ trivial ?_
          clear hK
          try simp only [Go.Act.put, List.setIfInBounds_toArray, List.set_cons_zero, List.set_cons_succ]
          refine wpH_take (i := 13) (v := (.int .i64 (s.size : Int))) (some 46) rfl rfl (by kernel_rfl) (by kernel_rfl) (by kernel_rfl) (fun _ _ _ h => h) (Or.inl ⟨by rfl, fun w' hS => (by go_simp)⟩) trivial ?_
          try simp only [Go.Act.put, List.setIfInBounds_toArray, List.set_cons_zero, List.set_cons_succ]
          refine wpH_take (i := 14) (v := (.bool D)) (some 47) rfl rfl (by kernel_rfl) (by kernel_rfl) (by kernel_rfl) (fun _ _ _ h => h) (Or.inl ⟨by rfl, fun w' hS => (by go_simp)⟩) trivial ?_
          try simp only [Go.Act.put, List.setIfInBounds_toArray, List.set_cons_zero, List.set_cons_succ]
          refine wpH_call (i := 15) (o := { dst := some 48, op := Op.call { callee := Callee.value (Operand.func 92), args := #[Operand.tmp 33, Operand.tmp 37, Operand.tmp 47], argTypes := #[106, 3, 4] }, type := 4, pos := _, after := #[{ on := 0, ground := Ground.data }, { on := 4, ground := Ground.data }, { on := 14, ground := Ground.data }], guard := none }) (by kernel_rfl) rfl (fun K' hK => ?_)
          rw [if_pos (by rfl)]
          go_simp
          refine HP.out.mono ?_
          rintro e v11 ⟨rfl, q2, t2⟩
          refine hK.out _ _ trivial ?_
          clear hK
          try simp only [Go.Act.put, List.setIfInBounds_toArray, List.set_cons_zero, List.set_cons_succ]
          refine wpAnyH_done (by kernel_rfl) ?_ _
          go_wp2_with fail
          go_end0
          exact ⟨rfl, by rw [HE.out]; exact q2, TZ.out.trans' t2⟩
        refine AllH.cons (o := { dst := some 45, op := Op.load 9 (Operand.tmp 44), type := 9, pos := _, after := #[{ on := 11, ground := Ground.data }], guard := none }) rfl (fun K' hK => ?_) ?_
        · rw [if_pos (by rfl)]
          have z12 := C0
          go_simp
          clear z12
          refine hK.out _ _ trivial ?_
          clear hK
          try simp only [Go.Act.put, List.setIfInBounds_toArray, List.set_cons_zero, List.set_cons_succ]
          refine wpH_take (i := 13) (v := (.int .i64 (s.size : Int))) (some 46) rfl rfl (by kernel_rfl) (by kernel_rfl) (by kernel_rfl) (fun _ _ _ h => h) (Or.inl ⟨by rfl, fun w' hS => (by go_simp)⟩) trivial ?_
          try simp only [Go.Act.put, List.setIfInBounds_toArray, List.set_cons_zero, List.set_cons_succ]
          refine wpH_take (i := 14) (v := (.bool D)) (some 47) rfl rfl (by kernel_rfl) (by kernel_rfl) (by kernel_rfl) (fun _ _ _ h => h) (Or.inl ⟨by rfl, fun w' hS => (by go_simp)⟩) trivial ?_
          try simp only [Go.Act.put, List.setIfInBounds_toArray, List.set_cons_zero, List.set_cons_succ]
          refine wpH_call (i := 4) (o := { dst := some 37, op := Op.load 3 (Operand.tmp 36), type := 3, pos := _, after := #[{ on := 3, ground := Ground.data }], guard := none }) (by kernel_rfl) rfl (fun K' hK => ?_)
          rw [if_pos (by rfl)]
          have z13 := C1
          go_simp
          clear z13
          refine hK.out _ _ trivial ?_
          clear hK
          try simp only [Go.Act.put, List.setIfInBounds_toArray, List.set_cons_zero, List.set_cons_succ]
          refine wpH_call (i := 15) (o := { dst := some 48, op := Op.call { callee := Callee.value (Operand.func 92), args := #[Operand.tmp 33, Operand.tmp 37, Operand.tmp 47], argTypes := #[106, 3, 4] }, type := 4, pos := _, after := #[{ on := 0, ground := Ground.data }, { on := 4, ground := Ground.data }, { on := 14, ground := Ground.data }], guard := none }) (by kernel_rfl) rfl (fun K' hK => ?_)
          rw [if_pos (by rfl)]
          go_simp
          refine HP.out.mono ?_
          rintro e v14 ⟨rfl, q2, t2⟩
          refine hK.out _ _ trivial ?_
          clear hK
          try simp only [Go.Act.put, List.setIfInBounds_toArray, List.set_cons_zero, List.set_cons_succ]
          refine wpAnyH_done (by kernel_rfl) ?_ _
          go_wp2_with fail
          go_end0
          exact ⟨rfl, by rw [HE.out]; exact q2, TZ.out.trans' t2⟩
        exact AllH.nil
      refine AllH.cons (o := { dst := some 45, op := Op.load 9 (Operand.tmp 44), type := 9, pos := _, after := #[{ on := 11, ground := Ground.data }], guard := none }) rfl (fun K' hK => ?_) ?_
      · rw [if_pos (by rfl)]
        have z15 := C0
        go_simp
        clear z15
        refine hK.out _ _ trivial ?_
        clear hK
        try simp only [Go.Act.put, List.setIfInBounds_toArray, List.set_cons_zero, List.set_cons_succ]
        refine wpH_take (i := 13) (v := (.int .i64 (s.size : Int))) (some 46) rfl rfl (by kernel_rfl) (by kernel_rfl) (by kernel_rfl) (fun _ _ _ h => h) (Or.inl ⟨by rfl, fun w' hS => (by go_simp)⟩) trivial ?_
        try simp only [Go.Act.put, List.setIfInBounds_toArray, List.set_cons_zero, List.set_cons_succ]
        refine wpH_ready (rs := [4, 8]) (by kernel_rfl) (by simp) ?_
        refine AllH.cons (o := { dst := some 37, op := Op.load 3 (Operand.tmp 36), type := 3, pos := _, after := #[{ on := 3, ground := Ground.data }], guard := none }) rfl (fun K' hK => ?_) ?_
        · rw [if_pos (by rfl)]
          have z16 := C1
          go_simp
          clear z16
          refine hK.out _ _ trivial ?_
          clear hK
          try simp only [Go.Act.put, List.setIfInBounds_toArray, List.set_cons_zero, List.set_cons_succ]
          refine wpH_call (i := 8) (o := { dst := some 41, op := Op.load 3 (Operand.tmp 40), type := 3, pos := _, after := #[{ on := 7, ground := Ground.data }], guard := none }) (by kernel_rfl) rfl (fun K' hK => ?_)
          rw [if_pos (by rfl)]
          have z17 := C1
          go_simp
          clear z17
          refine hK.out _ _ trivial ?_
          clear hK
          try simp only [Go.Act.put, List.setIfInBounds_toArray, List.set_cons_zero, List.set_cons_succ]
          refine wpH_take (i := 14) (v := (.bool D)) (some 47) rfl rfl (by kernel_rfl) (by kernel_rfl) (by kernel_rfl) (fun _ _ _ h => h) (Or.inl ⟨by rfl, fun w' hS => (by go_simp)⟩) trivial ?_
          try simp only [Go.Act.put, List.setIfInBounds_toArray, List.set_cons_zero, List.set_cons_succ]
          refine wpH_call (i := 15) (o := { dst := some 48, op := Op.call { callee := Callee.value (Operand.func 92), args := #[Operand.tmp 33, Operand.tmp 37, Operand.tmp 47], argTypes := #[106, 3, 4] }, type := 4, pos := _, after := #[{ on := 0, ground := Ground.data }, { on := 4, ground := Ground.data }, { on := 14, ground := Ground.data }], guard := none }) (by kernel_rfl) rfl (fun K' hK => ?_)
          rw [if_pos (by rfl)]
          go_simp
          refine HP.out.mono ?_
          rintro e v18 ⟨rfl, q2, t2⟩
          refine hK.out _ _ trivial ?_
          clear hK
          try simp only [Go.Act.put, List.setIfInBounds_toArray, List.set_cons_zero, List.set_cons_succ]
          refine wpAnyH_done (by kernel_rfl) ?_ _
          go_wp2_with fail
          go_end0
          exact ⟨rfl, by rw [HE.out]; exact q2, TZ.out.trans' t2⟩
        refine AllH.cons (o := { dst := some 41, op := Op.load 3 (Operand.tmp 40), type := 3, pos := _, after := #[{ on := 7, ground := Ground.data }], guard := none }) rfl (fun K' hK => ?_) ?_
        · rw [if_pos (by rfl)]
          have z19 := C1
          go_simp
          clear z19
          refine hK.out _ _ trivial ?_
          clear hK
          try simp only [Go.Act.put, List.setIfInBounds_toArray, List.set_cons_zero, List.set_cons_succ]
          refine wpH_take (i := 14) (v := (.bool D)) (some 47) rfl rfl (by kernel_rfl) (by kernel_rfl) (by kernel_rfl) (fun _ _ _ h => h) (Or.inl ⟨by rfl, fun w' hS => (by go_simp)⟩) trivial ?_
          try simp only [Go.Act.put, List.setIfInBounds_toArray, List.set_cons_zero, List.set_cons_succ]
          refine wpH_call (i := 4) (o := { dst := some 37, op := Op.load 3 (Operand.tmp 36), type := 3, pos := _, after := #[{ on := 3, ground := Ground.data }], guard := none }) (by kernel_rfl) rfl (fun K' hK => ?_)
          rw [if_pos (by rfl)]
          have z20 := C1
          go_simp
          clear z20
          refine hK.out _ _ trivial ?_
          clear hK
          try simp only [Go.Act.put, List.setIfInBounds_toArray, List.set_cons_zero, List.set_cons_succ]
          refine wpH_call (i := 15) (o := { dst := some 48, op := Op.call { callee := Callee.value (Operand.func 92), args := #[Operand.tmp 33, Operand.tmp 37, Operand.tmp 47], argTypes := #[106, 3, 4] }, type := 4, pos := _, after := #[{ on := 0, ground := Ground.data }, { on := 4, ground := Ground.data }, { on := 14, ground := Ground.data }], guard := none }) (by kernel_rfl) rfl (fun K' hK => ?_)
          rw [if_pos (by rfl)]
          go_simp
          refine HP.out.mono ?_
          rintro e v21 ⟨rfl, q2, t2⟩
          refine hK.out _ _ trivial ?_
          clear hK
          try simp only [Go.Act.put, List.setIfInBounds_toArray, List.set_cons_zero, List.set_cons_succ]
          refine wpAnyH_done (by kernel_rfl) ?_ _
          go_wp2_with fail
          go_end0
          exact ⟨rfl, by rw [HE.out]; exact q2, TZ.out.trans' t2⟩
        exact AllH.nil
      exact AllH.nil
  · have hb : (y.er == 0) = false := by simpa using he
    have HM' : MM = y := by rw [HM.out, if_neg (fun q => he q.1)]
    go_upto_region 4 with fail
    clear hb d0 d1 d2 f1 f2
    obtain ⟨Z, eZ⟩ : ∃ Z : Rd, Z = y := ⟨_, rfl⟩
    have qZ : Rq (w1).drew r s Z := by rw [eZ]; exact q1
    have TZ : Hid (Touch [r] w (w1).drew) := hid (t1).drew
    have HE := hid (HZ.out Z (by rw [eZ]; exact HM'.symm))
    obtain ⟨C0, C1, _⟩ := HQ.out _ Z qZ
    have HP := hid (pass_ qZ Z.at_ (decide (Z.at_ = (s.size : Int))))
    have hD : (Z.at_ == (s.size : Int)) = decide (Z.at_ = (s.size : Int)) := by rw [Bool.eq_iff_iff]; simp
    skip
    generalize passB Z (decide (Z.at_ = (s.size : Int))) = B' at *
    generalize passS Z Z.at_ (decide (Z.at_ = (s.size : Int))) = P' at *
    generalize decide (Z.at_ = (s.size : Int)) = D at *
    refine wp_region_H (S := fun _ => True) (by kernel_rfl) ?_
    unfold PT at HP
    generalize (w1).drew = Wd at *
    clear HQ HU sl HZ HM eZ
    refine wpH_take (i := 0) (v := (.pointer (some ⟨r, 0, none⟩))) (some 33) rfl rfl (by kernel_rfl) (by kernel_rfl) (by kernel_rfl) (fun _ _ _ h => h) (Or.inl ⟨by rfl, fun w' hS => (by go_simp)⟩) trivial ?_
    try simp only [Go.Act.put, List.setIfInBounds_toArray, List.set_cons_zero, List.set_cons_succ]
    refine wpH_take (i := 1) (v := (.pointer (some ⟨r, 0, none⟩))) (some 34) rfl rfl (by kernel_rfl) (by kernel_rfl) (by kernel_rfl) (fun _ _ _ h => h) (Or.inl ⟨by rfl, fun w' hS => (by go_simp)⟩) trivial ?_
    try simp only [Go.Act.put, List.setIfInBounds_toArray, List.set_cons_zero, List.set_cons_succ]
    refine wpH_take (i := 2) (v := (.pointer (some ⟨r, 0, none⟩))) (some 35) rfl rfl (by kernel_rfl) (by kernel_rfl) (by kernel_rfl) (fun _ _ _ h => h) (Or.inl ⟨by rfl, fun w' hS => (by go_simp)⟩) trivial ?_
    try simp only [Go.Act.put, List.setIfInBounds_toArray, List.set_cons_zero, List.set_cons_succ]
    refine wpH_take (i := 3) (v := (.pointer (some ⟨r, 1, none⟩))) (some 36) rfl rfl (by kernel_rfl) (by kernel_rfl) (by kernel_rfl) (fun _ _ _ h => h) (Or.inl ⟨by rfl, fun w' hS => (by go_simp)⟩) trivial ?_
    try simp only [Go.Act.put, List.setIfInBounds_toArray, List.set_cons_zero, List.set_cons_succ]
    refine wpH_take (i := 5) (v := (.pointer (some ⟨r, 0, none⟩))) (some 38) rfl rfl (by kernel_rfl) (by kernel_rfl) (by kernel_rfl) (fun _ _ _ h => h) (Or.inl ⟨by rfl, fun w' hS => (by go_simp)⟩) trivial ?_
    try simp only [Go.Act.put, List.setIfInBounds_toArray, List.set_cons_zero, List.set_cons_succ]
    refine wpH_take (i := 6) (v := (.pointer (some ⟨r, 0, none⟩))) (some 39) rfl rfl (by kernel_rfl) (by kernel_rfl) (by kernel_rfl) (fun _ _ _ h => h) (Or.inl ⟨by rfl, fun w' hS => (by go_simp)⟩) trivial ?_
    try simp only [Go.Act.put, List.setIfInBounds_toArray, List.set_cons_zero, List.set_cons_succ]
    refine wpH_take (i := 7) (v := (.pointer (some ⟨r, 1, none⟩))) (some 40) rfl rfl (by kernel_rfl) (by kernel_rfl) (by kernel_rfl) (fun _ _ _ h => h) (Or.inl ⟨by rfl, fun w' hS => (by go_simp)⟩) trivial ?_
    try simp only [Go.Act.put, List.setIfInBounds_toArray, List.set_cons_zero, List.set_cons_succ]
    refine wpH_take (i := 9) (v := (.pointer (some ⟨r, 0, none⟩))) (some 42) rfl rfl (by kernel_rfl) (by kernel_rfl) (by kernel_rfl) (fun _ _ _ h => h) (Or.inl ⟨by rfl, fun w' hS => (by go_simp)⟩) trivial ?_
    try simp only [Go.Act.put, List.setIfInBounds_toArray, List.set_cons_zero, List.set_cons_succ]
    refine wpH_take (i := 10) (v := (.pointer (some ⟨r, 0, none⟩))) (some 43) rfl rfl (by kernel_rfl) (by kernel_rfl) (by kernel_rfl) (fun _ _ _ h => h) (Or.inl ⟨by rfl, fun w' hS => (by go_simp)⟩) trivial ?_
    try simp only [Go.Act.put, List.setIfInBounds_toArray, List.set_cons_zero, List.set_cons_succ]
    refine wpH_take (i := 11) (v := (.pointer (some ⟨r, 0, none⟩))) (some 44) rfl rfl (by kernel_rfl) (by kernel_rfl) (by kernel_rfl) (fun _ _ _ h => h) (Or.inl ⟨by rfl, fun w' hS => (by go_simp)⟩) trivial ?_
    try simp only [Go.Act.put, List.setIfInBounds_toArray, List.set_cons_zero, List.set_cons_succ]
    refine wpH_ready (rs := [4, 8, 12]) (by kernel_rfl) (by simp) ?_
    refine AllH.cons (o := { dst := some 37, op := Op.load 3 (Operand.tmp 36), type := 3, pos := _, after := #[{ on := 3, ground := Ground.data }], guard := none }) rfl (fun K' hK => ?_) ?_
    · rw [if_pos (by rfl)]
      have z1 := C1
      go_simp
      clear z1
      refine hK.out _ _ trivial ?_
      clear hK
      try simp only [Go.Act.put, List.setIfInBounds_toArray, List.set_cons_zero, List.set_cons_succ]
      refine wpH_ready (rs := [8, 12]) (by kernel_rfl) (by simp) ?_
      refine AllH.cons (o := { dst := some 41, op := Op.load 3 (Operand.tmp 40), type := 3, pos := _, after := #[{ on := 7, ground := Ground.data }], guard := none }) rfl (fun K' hK => ?_) ?_
      · rw [if_pos (by rfl)]
        have z2 := C1
        go_simp
        clear z2
        refine hK.out _ _ trivial ?_
        clear hK
        try simp only [Go.Act.put, List.setIfInBounds_toArray, List.set_cons_zero, List.set_cons_succ]
        refine wpH_call (i := 12) (o := { dst := some 45, op := Op.load 9 (Operand.tmp 44), type := 9, pos := _, after := #[{ on := 11, ground := Ground.data }], guard := none }) (by kernel_rfl) rfl (fun K' hK => ?_)
        rw [if_pos (by rfl)]
        have z3 := C0
        go_simp
        clear z3
        refine hK.out _ _ trivial ?_
        clear hK
        try simp only [Go.Act.put, List.setIfInBounds_toArray, List.set_cons_zero, List.set_cons_succ]
        refine wpH_take (i := 13) (v := (.int .i64 (s.size : Int))) (some 46) rfl rfl (by kernel_rfl) (by kernel_rfl) (by kernel_rfl) (fun _ _ _ h => h) (Or.inl ⟨by rfl, fun w' hS => (by go_simp)⟩) trivial ?_
        try simp only [Go.Act.put, List.setIfInBounds_toArray, List.set_cons_zero, List.set_cons_succ]
        refine wpH_take (i := 14) (v := (.bool D)) (some 47) rfl rfl (by kernel_rfl) (by kernel_rfl) (by kernel_rfl) (fun _ _ _ h => h) (Or.inl ⟨by rfl, fun w' hS => (by go_simp)⟩) trivial ?_
        try simp only [Go.Act.put, List.setIfInBounds_toArray, List.set_cons_zero, List.set_cons_succ]
        refine wpH_call (i := 15) (o := { dst := some 48, op := Op.call { callee := Callee.value (Operand.func 92), args := #[Operand.tmp 33, Operand.tmp 37, Operand.tmp 47], argTypes := #[106, 3, 4] }, type := 4, pos := _, after := #[{ on := 0, ground := Ground.data }, { on := 4, ground := Ground.data }, { on := 14, ground := Ground.data }], guard := none }) (by kernel_rfl) rfl (fun K' hK => ?_)
        rw [if_pos (by rfl)]
        go_simp
        refine HP.out.mono ?_
        rintro e v4 ⟨rfl, q2, t2⟩
        refine hK.out _ _ trivial ?_
        clear hK
        try simp only [Go.Act.put, List.setIfInBounds_toArray, List.set_cons_zero, List.set_cons_succ]
        refine wpAnyH_done (by kernel_rfl) ?_ _
        go_wp2_with fail
        go_end0
        exact ⟨rfl, by rw [HE.out]; exact q2, TZ.out.trans' t2⟩
      refine AllH.cons (o := { dst := some 45, op := Op.load 9 (Operand.tmp 44), type := 9, pos := _, after := #[{ on := 11, ground := Ground.data }], guard := none }) rfl (fun K' hK => ?_) ?_
      · rw [if_pos (by rfl)]
        have z5 := C0
        go_simp
        clear z5
        refine hK.out _ _ trivial ?_
        clear hK
        try simp only [Go.Act.put, List.setIfInBounds_toArray, List.set_cons_zero, List.set_cons_succ]
        refine wpH_take (i := 13) (v := (.int .i64 (s.size : Int))) (some 46) rfl rfl (by kernel_rfl) (by kernel_rfl) (by kernel_rfl) (fun _ _ _ h => h) (Or.inl ⟨by rfl, fun w' hS => (by go_simp)⟩) trivial ?_
        try simp only [Go.Act.put, List.setIfInBounds_toArray, List.set_cons_zero, List.set_cons_succ]
        refine wpH_call (i := 8) (o := { dst := some 41, op := Op.load 3 (Operand.tmp 40), type := 3, pos := _, after := #[{ on := 7, ground := Ground.data }], guard := none }) (by kernel_rfl) rfl (fun K' hK => ?_)
        rw [if_pos (by rfl)]
        have z6 := C1
        go_simp
        clear z6
        refine hK.out _ _ trivial ?_
        clear hK
        try simp only [Go.Act.put, List.setIfInBounds_toArray, List.set_cons_zero, List.set_cons_succ]
        refine wpH_take (i := 14) (v := (.bool D)) (some 47) rfl rfl (by kernel_rfl) (by kernel_rfl) (by kernel_rfl) (fun _ _ _ h => h) (Or.inl ⟨by rfl, fun w' hS => (by go_simp)⟩) trivial ?_
        try simp only [Go.Act.put, List.setIfInBounds_toArray, List.set_cons_zero, List.set_cons_succ]
        refine wpH_call (i := 15) (o := { dst := some 48, op := Op.call { callee := Callee.value (Operand.func 92), args := #[Operand.tmp 33, Operand.tmp 37, Operand.tmp 47], argTypes := #[106, 3, 4] }, type := 4, pos := _, after := #[{ on := 0, ground := Ground.data }, { on := 4, ground := Ground.data }, { on := 14, ground := Ground.data }], guard := none }) (by kernel_rfl) rfl (fun K' hK => ?_)
        rw [if_pos (by rfl)]
        go_simp
        refine HP.out.mono ?_
        rintro e v7 ⟨rfl, q2, t2⟩
        refine hK.out _ _ trivial ?_
        clear hK
        try simp only [Go.Act.put, List.setIfInBounds_toArray, List.set_cons_zero, List.set_cons_succ]
        refine wpAnyH_done (by kernel_rfl) ?_ _
        go_wp2_with fail
        go_end0
        exact ⟨rfl, by rw [HE.out]; exact q2, TZ.out.trans' t2⟩
      exact AllH.nil
    refine AllH.cons (o := { dst := some 41, op := Op.load 3 (Operand.tmp 40), type := 3, pos := _, after := #[{ on := 7, ground := Ground.data }], guard := none }) rfl (fun K' hK => ?_) ?_
    · rw [if_pos (by rfl)]
      have z8 := C1
      go_simp
      clear z8
      refine hK.out _ _ trivial ?_
      clear hK
      try simp only [Go.Act.put, List.setIfInBounds_toArray, List.set_cons_zero, List.set_cons_succ]
      refine wpH_ready (rs := [4, 12]) (by kernel_rfl) (by simp) ?_
      refine AllH.cons (o := { dst := some 37, op := Op.load 3 (Operand.tmp 36), type := 3, pos := _, after := #[{ on := 3, ground := Ground.data }], guard := none }) rfl (fun K' hK => ?_) ?_
      · rw [if_pos (by rfl)]
        have z9 := C1
        go_simp
        clear z9
        refine hK.out _ _ trivial ?_
        clear hK
        try simp only [Go.Act.put, List.setIfInBounds_toArray, List.set_cons_zero, List.set_cons_succ]
        refine wpH_call (i := 12) (o := { dst := some 45, op := Op.load 9 (Operand.tmp 44), type := 9, pos := _, after := #[{ on := 11, ground := Ground.data }], guard := none }) (by kernel_rfl) rfl (fun K' hK => ?_)
        rw [if_pos (by rfl)]
        have z10 := C0
        go_simp
        clear z10
        refine hK.out _ _ trivial ?_
        clear hK
        try simp only [Go.Act.put, List.setIfInBounds_toArray, List.set_cons_zero, List.set_cons_succ]
        refine wpH_take (i := 13) (v := (.int .i64 (s.size : Int))) (some 46) rfl rfl (by kernel_rfl) (by kernel_rfl) (by kernel_rfl) (fun _ _ _ h => h) (Or.inl ⟨by rfl, fun w' hS => (by go_simp)⟩) trivial ?_
        try simp only [Go.Act.put, List.setIfInBounds_toArray, List.set_cons_zero, List.set_cons_succ]
        refine wpH_take (i := 14) (v := (.bool D)) (some 47) rfl rfl (by kernel_rfl) (by kernel_rfl) (by kernel_rfl) (fun _ _ _ h => h) (Or.inl ⟨by rfl, fun w' hS => (by go_simp)⟩) trivial ?_
        try simp only [Go.Act.put, List.setIfInBounds_toArray, List.set_cons_zero, List.set_cons_succ]
        refine wpH_call (i := 15) (o := { dst := some 48, op := Op.call { callee := Callee.value (Operand.func 92), args := #[Operand.tmp 33, Operand.tmp 37, Operand.tmp 47], argTypes := #[106, 3, 4] }, type := 4, pos := _, after := #[{ on := 0, ground := Ground.data }, { on := 4, ground := Ground.data }, { on := 14, ground := Ground.data }], guard := none }) (by kernel_rfl) rfl (fun K' hK => ?_)
        rw [if_pos (by rfl)]
        go_simp
        refine HP.out.mono ?_
        rintro e v11 ⟨rfl, q2, t2⟩
        refine hK.out _ _ trivial ?_
        clear hK
        try simp only [Go.Act.put, List.setIfInBounds_toArray, List.set_cons_zero, List.set_cons_succ]
        refine wpAnyH_done (by kernel_rfl) ?_ _
        go_wp2_with fail
        go_end0
        exact ⟨rfl, by rw [HE.out]; exact q2, TZ.out.trans' t2⟩
      refine AllH.cons (o := { dst := some 45, op := Op.load 9 (Operand.tmp 44), type := 9, pos := _, after := #[{ on := 11, ground := Ground.data }], guard := none }) rfl (fun K' hK => ?_) ?_
      · rw [if_pos (by rfl)]
        have z12 := C0
        go_simp
        clear z12
        refine hK.out _ _ trivial ?_
        clear hK
        try simp only [Go.Act.put, List.setIfInBounds_toArray, List.set_cons_zero, List.set_cons_succ]
        refine wpH_take (i := 13) (v := (.int .i64 (s.size : Int))) (some 46) rfl rfl (by kernel_rfl) (by kernel_rfl) (by kernel_rfl) (fun _ _ _ h => h) (Or.inl ⟨by rfl, fun w' hS => (by go_simp)⟩) trivial ?_
        try simp only [Go.Act.put, List.setIfInBounds_toArray, List.set_cons_zero, List.set_cons_succ]
        refine wpH_take (i := 14) (v := (.bool D)) (some 47) rfl rfl (by kernel_rfl) (by kernel_rfl) (by kernel_rfl) (fun _ _ _ h => h) (Or.inl ⟨by rfl, fun w' hS => (by go_simp)⟩) trivial ?_
        try simp only [Go.Act.put, List.setIfInBounds_toArray, List.set_cons_zero, List.set_cons_succ]
        refine wpH_call (i := 4) (o := { dst := some 37, op := Op.load 3 (Operand.tmp 36), type := 3, pos := _, after := #[{ on := 3, ground := Ground.data }], guard := none }) (by kernel_rfl) rfl (fun K' hK => ?_)
        rw [if_pos (by rfl)]
        have z13 := C1
        go_simp
        clear z13
        refine hK.out _ _ trivial ?_
        clear hK
        try simp only [Go.Act.put, List.setIfInBounds_toArray, List.set_cons_zero, List.set_cons_succ]
        refine wpH_call (i := 15) (o := { dst := some 48, op := Op.call { callee := Callee.value (Operand.func 92), args := #[Operand.tmp 33, Operand.tmp 37, Operand.tmp 47], argTypes := #[106, 3, 4] }, type := 4, pos := _, after := #[{ on := 0, ground := Ground.data }, { on := 4, ground := Ground.data }, { on := 14, ground := Ground.data }], guard := none }) (by kernel_rfl) rfl (fun K' hK => ?_)
        rw [if_pos (by rfl)]
        go_simp
        refine HP.out.mono ?_
        rintro e v14 ⟨rfl, q2, t2⟩
        refine hK.out _ _ trivial ?_
        clear hK
        try simp only [Go.Act.put, List.setIfInBounds_toArray, List.set_cons_zero, List.set_cons_succ]
        refine wpAnyH_done (by kernel_rfl) ?_ _
        go_wp2_with fail
        go_end0
        exact ⟨rfl, by rw [HE.out]; exact q2, TZ.out.trans' t2⟩
      exact AllH.nil
    refine AllH.cons (o := { dst := some 45, op := Op.load 9 (Operand.tmp 44), type := 9, pos := _, after := #[{ on := 11, ground := Ground.data }], guard := none }) rfl (fun K' hK => ?_) ?_
    · rw [if_pos (by rfl)]
      have z15 := C0
      go_simp
      clear z15
      refine hK.out _ _ trivial ?_
      clear hK
      try simp only [Go.Act.put, List.setIfInBounds_toArray, List.set_cons_zero, List.set_cons_succ]
      refine wpH_take (i := 13) (v := (.int .i64 (s.size : Int))) (some 46) rfl rfl (by kernel_rfl) (by kernel_rfl) (by kernel_rfl) (fun _ _ _ h => h) (Or.inl ⟨by rfl, fun w' hS => (by go_simp)⟩) trivial ?_
      try simp only [Go.Act.put, List.setIfInBounds_toArray, List.set_cons_zero, List.set_cons_succ]
      refine wpH_ready (rs := [4, 8]) (by kernel_rfl) (by simp) ?_
      refine AllH.cons (o := { dst := some 37, op := Op.load 3 (Operand.tmp 36), type := 3, pos := _, after := #[{ on := 3, ground := Ground.data }], guard := none }) rfl (fun K' hK => ?_) ?_
      · rw [if_pos (by rfl)]
        have z16 := C1
        go_simp
        clear z16
        refine hK.out _ _ trivial ?_
        clear hK
        try simp only [Go.Act.put, List.setIfInBounds_toArray, List.set_cons_zero, List.set_cons_succ]
        refine wpH_call (i := 8) (o := { dst := some 41, op := Op.load 3 (Operand.tmp 40), type := 3, pos := _, after := #[{ on := 7, ground := Ground.data }], guard := none }) (by kernel_rfl) rfl (fun K' hK => ?_)
        rw [if_pos (by rfl)]
        have z17 := C1
        go_simp
        clear z17
        refine hK.out _ _ trivial ?_
        clear hK
        try simp only [Go.Act.put, List.setIfInBounds_toArray, List.set_cons_zero, List.set_cons_succ]
        refine wpH_take (i := 14) (v := (.bool D)) (some 47) rfl rfl (by kernel_rfl) (by kernel_rfl) (by kernel_rfl) (fun _ _ _ h => h) (Or.inl ⟨by rfl, fun w' hS => (by go_simp)⟩) trivial ?_
        try simp only [Go.Act.put, List.setIfInBounds_toArray, List.set_cons_zero, List.set_cons_succ]
        refine wpH_call (i := 15) (o := { dst := some 48, op := Op.call { callee := Callee.value (Operand.func 92), args := #[Operand.tmp 33, Operand.tmp 37, Operand.tmp 47], argTypes := #[106, 3, 4] }, type := 4, pos := _, after := #[{ on := 0, ground := Ground.data }, { on := 4, ground := Ground.data }, { on := 14, ground := Ground.data }], guard := none }) (by kernel_rfl) rfl (fun K' hK => ?_)
        rw [if_pos (by rfl)]
        go_simp
        refine HP.out.mono ?_
        rintro e v18 ⟨rfl, q2, t2⟩
        refine hK.out _ _ trivial ?_
        clear hK
        try simp only [Go.Act.put, List.setIfInBounds_toArray, List.set_cons_zero, List.set_cons_succ]
        refine wpAnyH_done (by kernel_rfl) ?_ _
        go_wp2_with fail
        go_end0
        exact ⟨rfl, by rw [HE.out]; exact q2, TZ.out.trans' t2⟩
      refine AllH.cons (o := { dst := some 41, op := Op.load 3 (Operand.tmp 40), type := 3, pos := _, after := #[{ on := 7, ground := Ground.data }], guard := none }) rfl (fun K' hK => ?_) ?_
      · rw [if_pos (by rfl)]
        have z19 := C1
        go_simp
        clear z19
        refine hK.out _ _ trivial ?_
        clear hK
        try simp only [Go.Act.put, List.setIfInBounds_toArray, List.set_cons_zero, List.set_cons_succ]
        refine wpH_take (i := 14) (v := (.bool D)) (some 47) rfl rfl (by kernel_rfl) (by kernel_rfl) (by kernel_rfl) (fun _ _ _ h => h) (Or.inl ⟨by rfl, fun w' hS => (by go_simp)⟩) trivial ?_
        try simp only [Go.Act.put, List.setIfInBounds_toArray, List.set_cons_zero, List.set_cons_succ]
        refine wpH_call (i := 4) (o := { dst := some 37, op := Op.load 3 (Operand.tmp 36), type := 3, pos := _, after := #[{ on := 3, ground := Ground.data }], guard := none }) (by kernel_rfl) rfl (fun K' hK => ?_)
        rw [if_pos (by rfl)]
        have z20 := C1
        go_simp
        clear z20
        refine hK.out _ _ trivial ?_
        clear hK
        try simp only [Go.Act.put, List.setIfInBounds_toArray, List.set_cons_zero, List.set_cons_succ]
        refine wpH_call (i := 15) (o := { dst := some 48, op := Op.call { callee := Callee.value (Operand.func 92), args := #[Operand.tmp 33, Operand.tmp 37, Operand.tmp 47], argTypes := #[106, 3, 4] }, type := 4, pos := _, after := #[{ on := 0, ground := Ground.data }, { on := 4, ground := Ground.data }, { on := 14, ground := Ground.data }], guard := none }) (by kernel_rfl) rfl (fun K' hK => ?_)
        rw [if_pos (by rfl)]
        go_simp
        refine HP.out.mono ?_
        rintro e v21 ⟨rfl, q2, t2⟩
        refine hK.out _ _ trivial ?_
        clear hK
        try simp only [Go.Act.put, List.setIfInBounds_toArray, List.set_cons_zero, List.set_cons_succ]
        refine wpAnyH_done (by kernel_rfl) ?_ _
        go_wp2_with fail
        go_end0
        exact ⟨rfl, by rw [HE.out]; exact q2, TZ.out.trans' t2⟩
      exact AllH.nil
    exact AllH.nil
end Go.Proofs.YtpefbmheblfbeaaGreat.Sn
/- The contract of Read: what is wrong with the bytes, and where, or what memo.Of makes of what they say; the text's length is a number of the language's. -/
namespace Go.Proofs.YtpefbmheblfbeaaGreat.Sn
open Go.RowKit Go.Sort Go.Shelf Me
set_option linter.unusedVariables false
set_option linter.unusedSimpArgs false
theorem numR_v {s : ByteArray} {x : Rd} {a b : Int} (ha : 0 ≤ a) (hb : 0 ≤ b) : 0 ≤ (numR s x a b).2 ∧ (numR s x a b).2 ≤ b := by
  unfold numR
  split
  · exact ⟨Int.le_refl _, hb⟩
  · split
    · split
      · rename_i p q hh
        exact ⟨by show (0 : Int) ≤ (_ : Nat); omega, hh.2⟩
      · exact ⟨Int.le_refl _, hb⟩
    · exact ⟨Int.le_refl _, hb⟩
theorem Rin.mark {s : ByteArray} {x : Rd} (h : Rin s x) (m : List UInt8) : Rin s (markR s x m) := by
  unfold markR
  refine h.pass (fun e => ?_)
  unfold prefB at e
  have := congrArg List.length (of_decide_eq_true e)
  rw [List.length_take, List.length_drop, Array.length_toList] at this
  have h2 : min m.length (s.size - x.at_.toNat) = m.length := this
  have := h.1
  have := h.2
  omega
theorem Rin.cfg {s : ByteArray} {x : Rd} (h : Rin s x) : Rin s (cfgR s x).1 := ((((((h.num _ _).num _ _).num _ _).num _ _).num _ _).num _ _).num _ _
theorem Rin.ents {s : ByteArray} {c : Cf} {now : Int} : ∀ (n : Nat) {x : Rd} (L : List En), Rin s x → Rin s (entsR s c now n x L).1
  | 0, x, L, h => h
  | n + 1, x, L, h => by
    rw [entsR]
    split
    · exact Rin.ents n _ (((h.key _).num _ _).out c)
    · exact h
theorem keyR_ok (s : ByteArray) (x : Rd) (A : List K) : Ok (keyR s x A).2 := by
  have hz : Ok zk := ⟨by decide, by decide⟩
  unfold keyR
  cases ht : takK s x.at_ with
  | none => exact hz
  | some p =>
    obtain ⟨a1, a2, a3, _⟩ := takK_b (k := p.1) (n := p.2) ht
    simp only
    split
    · exact hz
    · split
      · exact ⟨by simp [Lit.wf, IntKind.min, IntKind.max, IntKind.signed, IntKind.bits]; omega, Nat.le_trans a3 (by decide)⟩
      · exact hz
theorem entsR_ok {s : ByteArray} {c : Cf} {now : Int} : ∀ (n : Nat) (x : Rd) (L : List En), (∀ e ∈ L, Ok e.1) → ∀ e ∈ (entsR s c now n x L).2, Ok e.1
  | 0, x, L, h => h
  | n + 1, x, L, h => by
    rw [entsR]
    split
    · refine entsR_ok n _ _ (fun e he => ?_)
      rcases List.mem_append.1 he with h1 | h1
      · exact h e h1
      · rw [List.mem_singleton] at h1
        rw [h1]
        exact keyR_ok s x _
    · exact h
theorem entsR_len {s : ByteArray} {c : Cf} {now : Int} : ∀ (n : Nat) (x : Rd) (L : List En), (entsR s c now n x L).2.length ≤ L.length + n
  | 0, x, L => Nat.le_refl _
  | n + 1, x, L => by
    rw [entsR]
    split
    · have := entsR_len (s := s) (c := c) (now := now) n (entR s x c now (keysL L)).1 (L ++ [(entR s x c now (keysL L)).2])
      rw [List.length_append] at this
      simp at this
      omega
    · show L.length ≤ _; omega
def rd1 (s : ByteArray) : Rd := markR s ⟨0, 0⟩ mk1
def rd2 (s : ByteArray) : Rd × Cf := cfgR s (rd1 s)
def rd3 (s : ByteArray) : Rd × Int := numR s (rd2 s).1 0 4611686018427387904
def rd4 (s : ByteArray) : Rd × List En := entsR s (rd2 s).2 (rd3 s).2 (numR s (rd3 s).1 0 (rd2 s).2.e).2.toNat (numR s (rd3 s).1 0 (rd2 s).2.e).1 []
def rd5 (s : ByteArray) : Rd := endR s (rd4 s).1
theorem w64' {x : Int} (h0 : 0 ≤ x) (h1 : x ≤ 9223372036854775807) : W64 x := by
  unfold W64
  simp [Lit.wf, IntKind.min, IntKind.max, IntKind.signed, IntKind.bits]
  omega
theorem rd2_c (s : ByteArray) : Wc (rd2 s).2 ∧ 0 ≤ (rd2 s).2.e ∧ (rd2 s).2.e ≤ 65536 := by
  unfold rd2 cfgR
  simp only
  have p0 := fun (x : Rd) => numR_v (s := s) (x := x) (a := 0) (b := 9223372036854775807) (by omega) (by omega)
  have p1 := fun (x : Rd) => numR_v (s := s) (x := x) (a := 0) (b := 65536) (by omega) (by omega)
  have p2 := fun (x : Rd) => numR_v (s := s) (x := x) (a := 1) (b := 4096) (by omega) (by omega)
  have p3 := fun (x : Rd) => numR_v (s := s) (x := x) (a := 1) (b := 1024) (by omega) (by omega)
  refine ⟨⟨w64' (p0 _).1 (p0 _).2, w64' (p0 _).1 (p0 _).2, w64' (p0 _).1 (p0 _).2, w64' (p1 _).1 ?_, w64' (p2 _).1 ?_, w64' (p3 _).1 ?_, w64' (p0 _).1 (p0 _).2⟩, (p1 _).1, (p1 _).2⟩
  · exact Int.le_trans (p1 _).2 (by omega)
  · exact Int.le_trans (p2 _).2 (by omega)
  · exact Int.le_trans (p3 _).2 (by omega)
set_option maxRecDepth 100000 in
set_option maxHeartbeats 4000000 in
theorem read_ (w : World) (s : ByteArray) (hs : s.size ≤ 140737488351232) : Calls Tryz.prog 12 #[.string s] w fun e w' => ((rd5 s).er ≠ 0 ∧ e = .returned (.tuple #[.pointer none, .int .i64 (rd5 s).at_, .int .i64 (rd5 s).er]) ∧ Touch [] w w') ∨ ((rd5 s).er = 0 ∧ ∃ pm, e = .returned (.tuple #[pm, .int .i64 (ofP (rd2 s).2 (rd3 s).2 (rd4 s).2).1, .int .i64 (ofP (rd2 s).2 (rd3 s).2 (rd4 s).2).2]) ∧ ∃ w9, Touch [] w w9 ∧ OfA w9 (rd2 s).2 (rd3 s).2 (rd4 s).2 pm w') := by
  obtain ⟨V, hV⟩ : ∃ V, V = w.alloc (.cells #[.string s, .int .i64 0, .int .i64 0] 108) := ⟨_, rfl⟩
  obtain ⟨r, hr⟩ : ∃ r, r = w.heap.size := ⟨_, rfl⟩
  have TV : Touch [] w V := by rw [hV]; exact (Touch.refl _ _).alloc _
  have q0 : Rq V r s ⟨0, 0⟩ := by rw [hV, hr]; exact heap_alloc_new w _
  have i0 : Rin s ⟨0, 0⟩ := ⟨Int.le_refl _, by show (0 : Int) ≤ s.size; omega⟩
  have i1 : Rin s (rd1 s) := i0.mark mk1
  have i2 : Rin s (rd2 s).1 := i1.cfg
  have i3 : Rin s (rd3 s).1 := i2.num _ _
  have i4 : Rin s (rd4 s).1 := Rin.ents _ _ (i3.num _ _)
  have H1 : Hid (Calls Tryz.prog 44 #[PT r, .string ⟨#[99, 111, 110, 118, 111, 121, 48, 49]⟩] V fun e w' => e = .returned (.tuple #[]) ∧ Rq w' r s (rd1 s) ∧ Touch [r] V w') := hid (mark_r q0 i0 hs ⟨#[99, 111, 110, 118, 111, 121, 48, 49]⟩ (by decide))
  have H2 : Hid (∀ w', Rq w' r s (rd1 s) → Calls Tryz.prog 45 #[PT r] w' fun e w'' => e = .returned (cv (rd2 s).2) ∧ Rq w'' r s (rd2 s).1 ∧ Touch [r] w' w'') := hid (fun w' (q : Rq w' r s (rd1 s)) => config_r q i1 hs)
  have H3 : Hid (∀ w', Rq w' r s (rd2 s).1 → Calls Tryz.prog 46 #[PT r, .int .i64 0, .int .i64 4611686018427387904] w' fun e w'' => e = .returned (.int .i64 (rd3 s).2) ∧ Rq w'' r s (rd3 s).1 ∧ Touch [r] w' w'') := hid (fun w' (q : Rq w' r s (rd2 s).1) => number_r q i2 hs 0 4611686018427387904 (by omega) (by omega) (by omega) (by omega))
  have v3 := numR_v (s := s) (x := (rd2 s).1) (a := 0) (b := 4611686018427387904) (by omega) (by omega)
  have H4 : Hid (∀ w', Rq w' r s (rd3 s).1 → Calls Tryz.prog 47 #[PT r, cv (rd2 s).2, .int .i64 (rd3 s).2] w' fun e w'' => ∃ v, e = .returned v ∧ w''.ownsRow w'.heap.size 60 7 v (rd4 s).2.length (cellsN (rd4 s).2) ∧ Rq w'' r s (rd4 s).1 ∧ Touch [r] w' w'') := hid (fun w' (q : Rq w' r s (rd3 s).1) => entries_r q i3 hs (rd2 s).2 (rd2_c s).2 (rd3 s).2 ⟨v3.1, by have := v3.2; show (numR s (rd2 s).1 0 4611686018427387904).2 ≤ _; omega⟩)
  have H5 : Hid (∀ w', Rq w' r s (rd4 s).1 → Calls Tryz.prog 48 #[PT r] w' fun e w'' => e = .returned (.tuple #[]) ∧ Rq w'' r s (rd5 s) ∧ Touch [r] w' w'') := hid (fun w' (q : Rq w' r s (rd4 s).1) => end_r q i4 hs)
  have hlen : ((rd4 s).2.length : Int) ≤ 9223372036854775807 := by
    have h1 := entsR_len (s := s) (c := (rd2 s).2) (now := (rd3 s).2) (numR s (rd3 s).1 0 (rd2 s).2.e).2.toNat (numR s (rd3 s).1 0 (rd2 s).2.e).1 []
    have h2 := numR_v (s := s) (x := (rd3 s).1) (a := 0) (b := (rd2 s).2.e) (by omega) (rd2_c s).2.1
    have h3 := (rd2_c s).2.2
    have h4 : (rd4 s).2.length ≤ 0 + (numR s (rd3 s).1 0 (rd2 s).2.e).2.toNat := h1
    omega
  have H6 := hid (fun w' v (hv : RN 60 w' v (rd4 s).2) => of15 w' (rd2 s).2 (rd3 s).2 (rd4 s).2 v (rd2_c s).1 hlen hv (entsR_ok _ _ _ (by simp)))
  have HT := hid TV
  have HQ : Hid (∀ w', Touch [r] V w' → Touch [] w w') := hid (fun w' t => HT.out.trans t (fun k hk => by simp at hk; rw [hk, hr]; exact Or.inr (Nat.le_refl _)))
  have hrw := hr
  clear i0 i1 i2 i3 i4 hlen v3 TV hs
  generalize (rd2 s).2 = CC at *
  generalize (rd3 s).2 = NW at *
  generalize (rd4 s).2 = LL at *
  generalize (rd2 s).1 = x2 at *
  generalize (rd3 s).1 = x3 at *
  generalize (rd4 s).1 = x4 at *
  generalize rd1 s = x1 at *
  generalize rd5 s = x5 at *
  unfold PT cv at *
  go_enter Tryz.func12, Tryz.ntmps12
  go_upto_region 2 with fail
  rw [← hV]
  try rw [← hr]
  have HR := hid hr
  clear hV hr hrw
  go_upto_region 3 with (go_at_call 44; refine H1.out.mono ?_; rintro e w1 ⟨rfl, q1, t1⟩)
  go_upto_region 4 with (go_at_call 45; refine (H2.out _ q1).mono ?_; rintro e w2 ⟨rfl, q2, t2⟩)
  obtain ⟨W2, hW2⟩ : ∃ W2, W2 = w2.alloc (.cells #[.int .i64 CC.t, .int .i64 CC.n, .int .i64 CC.s, .int .i64 CC.e, .int .i64 CC.f, .int .i64 CC.b, .int .i64 CC.d] 23) := ⟨_, rfl⟩
  obtain ⟨cb, hcb⟩ : ∃ cb, cb = w2.heap.size := ⟨_, rfl⟩
  have tW2 : Touch [] w2 W2 := by rw [hW2]; exact (Touch.refl _ _).alloc _
  have hbc : W2.heap[cb]? = some (.cells #[.int .i64 CC.t, .int .i64 CC.n, .int .i64 CC.s, .int .i64 CC.e, .int .i64 CC.f, .int .i64 CC.b, .int .i64 CC.d] 23 (0, 0)) := by rw [hW2, hcb]; exact heap_alloc_new w2 _
  have nr : cb ≠ r := by have := q2.lt; omega
  have q2' := q2.keep0 tW2
  have T2 := hid ((t1.trans' t2).trans' (tW2.mono (by simp)))
  rw [← hW2]
  try rw [← hcb]
  clear hW2 hcb q2 t1 t2 tW2 H1 H2 q1
  go_upto_region 5 with (go_at_call 46; refine (H3.out _ q2').mono ?_; rintro e w3 ⟨rfl, q3, t3⟩)
  have hb3 := boxT t3 hbc nr
  have z0 := cell_of (n := 0) hb3 rfl
  have z1 := cell_of (n := 1) hb3 rfl
  have z2 := cell_of (n := 2) hb3 rfl
  have z3 := cell_of (n := 3) hb3 rfl
  have z4 := cell_of (n := 4) hb3 rfl
  have z5 := cell_of (n := 5) hb3 rfl
  have z6 := cell_of (n := 6) hb3 rfl
  go_upto_region 6 with (go_at_call 47; refine (H4.out _ q3).mono ?_; rintro e w4 ⟨v4, rfl, o4, q4, t4⟩; obtain ⟨a4, c4, e4⟩ := own_form o4; subst e4)
  clear z0 z1 z2 z3 z4 z5 z6
  go_upto_region 7 with (go_at_call 48; refine (H5.out _ q4).mono ?_; rintro e w5 ⟨rfl, q5, t5⟩)
  have hb5 := boxT t5 (boxT t4 hb3 nr) nr
  have T5 := hid (HQ.out _ (((T2.out.trans' t3).trans' t4).trans' t5))
  have o5 := hid (own_touch o4 t5 (fun b hb e => by have := (o4.lt b hb).1; have := q3.lt; simp at e; omega))
  have cE := cell_of (n := 2) q5 rfl
  by_cases he : x5.er = 0
  · rw [he] at cE
    have z0 := cell_of (n := 0) hb5 rfl
    have z1 := cell_of (n := 1) hb5 rfl
    have z2 := cell_of (n := 2) hb5 rfl
    have z3 := cell_of (n := 3) hb5 rfl
    have z4 := cell_of (n := 4) hb5 rfl
    have z5 := cell_of (n := 5) hb5 rfl
    have z6 := cell_of (n := 6) hb5 rfl
    have R5 := hid (RN.own o5.out)
    go_wp2_with (go_at_call 31; refine (H6.out _ _ R5.out).mono ?_; rintro e w6 ⟨pm, rfl, hA⟩)
    exact bodyPost_ret (v := .tuple #[pm, .int .i64 (ofP CC NW LL).1, .int .i64 (ofP CC NW LL).2]) (by simp [results, Tryz.results12, go_sem]) rfl (Or.inr ⟨he, pm, rfl, _, T5.out, hA⟩)
  · have hb : (x5.er != 0) = true := by simpa using he
    have hb' : (x5.er == 0) = false := by simpa using he
    have C1 : ∀ w', Touch [] w5 w' → w'.cell? ⟨r, 1, none⟩ = some (.int .i64 x5.at_) := fun w' t => cell_at (t.keep q5 (by simp)) rfl
    have C2 : ∀ w', Touch [] w5 w' → w'.cell? ⟨r, 2, none⟩ = some (.int .i64 x5.er) := fun w' t => cell_at (t.keep q5 (by simp)) rfl
    have zz := q5.lt
    go_upto_region 8 with fail
    clear cE hb hb' hb5 hb3 hbc q5 q4 q3 q2' o4 t3 t4 t5 H3 H4 H5 H6
    go_region_held3 (fun w' => Touch [] w5 w') (first | assumption | exact (Touch.refl _ _).drew | exact Touch.refl _ _ | exact Touch.drew (by assumption)) (fail)
    all_goals
      go_wp2_with fail
      exact bodyPost_ret (v := .tuple #[.pointer none, .int .i64 x5.at_, .int .i64 x5.er]) (by simp [results, Tryz.results12, go_sem]) rfl (Or.inl ⟨he, rfl, T5.out.trans' (by assumption)⟩)
end Go.Proofs.YtpefbmheblfbeaaGreat.Sn
/- The contract of the document's Take: the number that stands at a place; the text's length is a number of the language's. -/
namespace Go.Proofs.YtpefbmheblfbeaaGreat.Sn
open Go.RowKit Go.Sort
set_option linter.unusedVariables false
theorem mul_nat (z : Int) : ∃ o : Nat, IntKind.u64.wrap z = (o : Int) ∧ o < 18446744073709551616 := by
  refine ⟨(z % 18446744073709551616).toNat, ?_, ?_⟩
  · rw [IntKind.wrap_u64]; omega
  · omega
theorem lastB_no {b j : Nat} (hb : b = 0) (hj : 0 < j) : lastB b j = false := by
  unfold lastB
  by_cases h9 : j = 9
  · rw [if_pos h9]; exact decide_eq_false (by omega)
  · rw [if_neg h9, hb]; simp; omega
theorem lastB_yes {b j : Nat} (hb : ¬ (b = 0 ∧ 0 < j)) (h8 : j ≤ 8 ∨ b ≤ 1 ∧ j = 9) : lastB b j = true := by
  unfold lastB
  by_cases h9 : j = 9
  · rw [if_pos h9]; exact decide_eq_true (by omega)
  · rw [if_neg h9, Bool.or_eq_true, decide_eq_true_eq, decide_eq_true_eq]; omega
structure TkI (s : ByteArray) (k j y q : Nat) : Prop where
  lt : y < 18446744073709551616
  eq : takeN (s.data.toList.drop k) = takeG (s.data.toList.drop (k + j)) j y
  p : j < 10 → y < 128 ^ j ∧ q = 128 ^ j
theorem TkI.fin {s : ByteArray} {k j y q : Nat} (h : TkI s k j y q) (h2 : j = 10 ∨ s.size ≤ k + j) : takeN (s.data.toList.drop k) = none := by
  rw [h.eq]
  rcases h2 with h2 | h2
  · rw [h2, takeG_ten]
  · rw [List.drop_eq_nil_of_le (by rw [Array.length_toList]; exact h2), takeG_nil]
theorem TkI.cons {s : ByteArray} {k j y q : Nat} (h : TkI s k j y q) {b : UInt8} (hk : k + j < s.size) (hb : s[k + j] = b) : takeN (s.data.toList.drop k) = takeG (b :: s.data.toList.drop (k + (j + 1))) j y := by
  rw [h.eq, drop_cons s (k + j) hk, hb]; rfl
theorem TkI.sum {s : ByteArray} {k j y q : Nat} (h : TkI s k j y q) (hj : j < 10) {d : Nat} (hd : d < 128) (h8 : j ≤ 8 ∨ d ≤ 1) : IntKind.u64.wrap ((y : Int) + IntKind.u64.wrap ((d : Int) * (q : Int))) = ((y + d * 128 ^ j : Nat) : Int) ∧ y + d * 128 ^ j < 18446744073709551616 ∧ (j ≤ 8 → y + d * 128 ^ j < 128 ^ (j + 1)) := by
  obtain ⟨q1, q2, q3⟩ := or_add (h.p hj).1 (by omega) hd h8
  refine ⟨?_, q2, q3⟩
  have e := (h.p hj).2
  rw [e]
  have e2 : IntKind.u64.wrap ((d : Int) * ((128 ^ j : Nat) : Int)) = ((d * 128 ^ j : Nat) : Int) := by
    rw [← Int.natCast_mul, IntKind.wrap_u64]; omega
  rw [e2, IntKind.wrap_u64]
  omega
theorem TkI.pow {s : ByteArray} {k j y q : Nat} (h : TkI s k j y q) (hj : j ≤ 8) : IntKind.u64.wrap ((q : Int) * 128) = ((128 ^ (j + 1) : Nat) : Int) := by
  have p8 := pow_le8 hj
  rw [(h.p (by omega)).2, IntKind.wrap_u64, Nat.pow_succ]
  omega
theorem rtake_ (w : World) (s : ByteArray) (at_ : Int) (hs : s.size ≤ 9223372036854775807) (h0 : -9223372036854775808 ≤ at_) (h1 : at_ ≤ 9223372036854775807) : Calls Tryz.prog 99 #[.string s, .int .i64 at_] w fun e w' => e = .returned (takeV at_ (takeAt s at_)) ∧ w' = w := by
  by_cases ha : at_ < 0
  · unfold takeAt
    rw [if_pos ha]
    unfold takeV
    go_enter Tryz.func99, Tryz.ntmps99
    go_wp2
    exact bodyPost_ret (v := takeZ) (by simp [results, Tryz.results99, go_sem, takeZ]) rfl ⟨rfl, rfl⟩
  obtain ⟨k, rfl⟩ : ∃ k : Nat, at_ = (k : Int) := ⟨at_.toNat, by omega⟩
  have hw : IntKind.i64.wrap ((s.size : Int) - (k : Int)) = (s.size : Int) - (k : Int) := by rw [IntKind.wrap_i64]; omega
  rw [show takeAt s (k : Int) = takeN (s.data.toList.drop k) by unfold takeAt; rw [if_neg ha]; rfl]
  have HS := hid hs
  have HK := hid h1
  clear hs h0 ha h1
  go_enter Tryz.func99, Tryz.ntmps99
  go_wp2
  go_loop [7, 8, 9] (fun x p i => ∃ (j y q : Nat), j ≤ 10 ∧ i = .int .i64 j ∧ x = .int .u64 y ∧ p = .int .u64 q ∧ Hid (TkI s k j y q)) (fun _ _ i => 10 - (intOf i).toNat)
  case atStart => exact ⟨0, 0, 1, Nat.zero_le _, rfl, rfl, rfl, hid ⟨by omega, rfl, fun _ => ⟨by omega, rfl⟩⟩⟩
  case round =>
    obtain ⟨j, y, q, hj, rfl, rfl, rfl, HI⟩ := hrel
    by_cases hlt : j < 10
    · have zj : (j : Int) < 10 := by omega
      by_cases hks : k < s.size
      · have z2 : (k : Int) < (s.size : Int) := by omega
        by_cases hkj : k + j < s.size
        · have z3 : (j : Int) < (s.size : Int) - (k : Int) := by omega
          have kj1 : (k : Int) + (j : Int) < (s.size : Int) := by omega
          have kj0 : ((k : Int) + (j : Int)).toNat = k + j := by omega
          obtain ⟨b, hb⟩ : ∃ b, s[k + j] = b := ⟨_, rfl⟩
          have HB := hid b.toNat_lt
          have wk : IntKind.i64.wrap ((k : Int) + (j : Int)) = (k : Int) + (j : Int) := by rw [IntKind.wrap_i64]; have := HS.out; omega
          have HD3 := hid (HI.out.cons hkj hb)
          have wb : IntKind.u64.wrap (b.toNat : Int) = (b.toNat : Int) := by rw [IntKind.wrap_u64]; have := HB.out; omega
          obtain ⟨d, hd⟩ : ∃ d : Nat, d = b.toNat % 128 := ⟨_, rfl⟩
          have wt : ((b.toNat : Int)).tmod 128 = (d : Int) := by rw [Int.tmod_eq_emod_of_nonneg (by omega)]; omega
          have wt2 : (b.toNat : Int) % 128 = (d : Int) := by omega
          have HDD := hid hd
          clear hd
          go_upto_region 9 with fail
          clear kj0 kj1 z3 z2 zj hb
          by_cases h9 : j = 9
          · by_cases h1 : 1 < d
            · have z9 : (j : Int) = 9 := by omega
              have z1 : (1 : Int) < (d : Int) := by omega
              have HE : Hid (takeN (s.data.toList.drop k) = none) := hid (by
                rw [HD3.out]
                by_cases h128 : b.toNat < 128
                · rw [takeG_last hlt h128, if_neg]
                  unfold lastB
                  rw [if_pos h9, decide_eq_true_eq]
                  have := HDD.out
                  omega
                · rw [takeG_more hlt h128, h9, takeG_ten])
              clear HI
              go_wp2
              exact bodyPost_ret (v := takeZ) (by simp [results, Tryz.results99, go_sem, takeZ]) rfl ⟨by rw [HE.out]; rfl, rfl⟩
            · have z9 : (j : Int) = 9 := by omega
              have z1 : ¬ (1 : Int) < (d : Int) := by omega
              have h89 : Hid (j ≤ 8 ∨ d ≤ 1) := hid (by omega)
              go_upto_region 11 with fail
              clear z9 z1 h9 h1
              have HSU := hid (HI.out.sum hlt (d := d) (by have := HDD.out; omega) h89.out)
              have HPW : Hid (∃ q2 : Nat, IntKind.u64.wrap ((q : Int) * 128) = (q2 : Int) ∧ (j ≤ 8 → q2 = 128 ^ (j + 1))) := hid (by
                by_cases h8 : j ≤ 8
                · exact ⟨_, HI.out.pow h8, fun _ => rfl⟩
                · obtain ⟨o, e, _⟩ := mul_nat ((q : Int) * 128)
                  exact ⟨o, e, fun h => absurd h h8⟩)
              obtain ⟨q2, hq2, HQ2'⟩ := HPW.out
              have HQ2 := hid HQ2'
              obtain ⟨o, ho⟩ : ∃ o : Nat, o = y + d * 128 ^ j := ⟨_, rfl⟩
              have hx := HSU.out.1
              rw [← ho] at hx
              have HOO := hid ho
              clear HPW HQ2' ho HI
              go_upto_region 13 with fail
              clear hx hq2
              by_cases h128 : b.toNat < 128
              · have z128 : (b.toNat : Int) < 128 := by omega
                have HL := hid (takeG_last (l := s.data.toList.drop (k + (j + 1))) (x := y) hlt h128)
                have HDb : Hid (d = b.toNat) := hid (by have := HDD.out; omega)
                have wk1 : IntKind.i64.wrap ((k : Int) + (j : Int) + 1) = (k : Int) + (j : Int) + 1 := by rw [IntKind.wrap_i64]; have := HS.out; omega
                clear h128
                by_cases hz : d = 0 ∧ 0 < j
                · have zd : (d : Int) = 0 := by omega
                  have zp : (0 : Int) < (j : Int) := by omega
                  have HN : Hid (lastB b.toNat j = false) := hid (by
                    exact lastB_no (by have := HDb.out; omega) hz.2)
                  go_wp2
                  exact bodyPost_ret (v := takeZ) (by simp [results, Tryz.results99, go_sem, takeZ]) rfl ⟨by rw [HD3.out, HL.out, HN.out]; rfl, rfl⟩
                · have HN : Hid (lastB b.toNat j = true) := hid (by
                    exact lastB_yes (by have := HDb.out; omega) (by have := HDb.out; have := h89.out; omega))
                  by_cases hd0 : d = 0
                  · have zd : (d : Int) = 0 := by omega
                    have zp : ¬ (0 : Int) < (j : Int) := by omega
                    have zp2 : ¬ 0 < j := by omega
                    have HZ := hid hz
                    clear hz
                    go_wp2
                    exact bodyPost_ret (v := .tuple #[.int .u64 (o : Int), .int .i64 ((k : Int) + (j : Int) + 1), .bool true]) (by simp [results, Tryz.results99, go_sem]) rfl ⟨by rw [HD3.out, HL.out, HN.out]; exact ret_take (by rw [HOO.out, HDb.out]) (by omega), rfl⟩
                  · have zd : ¬ (d : Int) = 0 := by omega
                    go_wp2
                    exact bodyPost_ret (v := .tuple #[.int .u64 (o : Int), .int .i64 ((k : Int) + (j : Int) + 1), .bool true]) (by simp [results, Tryz.results99, go_sem]) rfl ⟨by rw [HD3.out, HL.out, HN.out]; exact ret_take (by rw [HOO.out, HDb.out]) (by omega), rfl⟩
              · have z128 : ¬ (b.toNat : Int) < 128 := by omega
                have HL := hid (takeG_more (l := s.data.toList.drop (k + (j + 1))) (x := y) hlt h128)
                clear h128
                go_wp2
                go_round
                case rel =>
                  refine ⟨j + 1, o, q2, by omega, by push_cast; rfl, rfl, rfl, hid ⟨by rw [HOO.out]; exact HSU.out.2.1, ?_, fun h => ⟨by rw [HOO.out]; exact HSU.out.2.2 (by omega), HQ2.out (by omega)⟩⟩⟩
                  rw [HD3.out, HL.out, HOO.out, HDD.out]
                case measure => simp [intOf]; omega
          · have z9 : ¬ (j : Int) = 9 := by omega
            have h89 : Hid (j ≤ 8 ∨ d ≤ 1) := hid (by omega)
            go_upto_region 11 with fail
            clear z9 h9
            have HSU := hid (HI.out.sum hlt (d := d) (by have := HDD.out; omega) h89.out)
            have HPW : Hid (∃ q2 : Nat, IntKind.u64.wrap ((q : Int) * 128) = (q2 : Int) ∧ (j ≤ 8 → q2 = 128 ^ (j + 1))) := hid (by
              by_cases h8 : j ≤ 8
              · exact ⟨_, HI.out.pow h8, fun _ => rfl⟩
              · obtain ⟨o, e, _⟩ := mul_nat ((q : Int) * 128)
                exact ⟨o, e, fun h => absurd h h8⟩)
            obtain ⟨q2, hq2, HQ2'⟩ := HPW.out
            have HQ2 := hid HQ2'
            obtain ⟨o, ho⟩ : ∃ o : Nat, o = y + d * 128 ^ j := ⟨_, rfl⟩
            have hx := HSU.out.1
            rw [← ho] at hx
            have HOO := hid ho
            clear HPW HQ2' ho HI
            go_upto_region 13 with fail
            clear hx hq2
            by_cases h128 : b.toNat < 128
            · have z128 : (b.toNat : Int) < 128 := by omega
              have HL := hid (takeG_last (l := s.data.toList.drop (k + (j + 1))) (x := y) hlt h128)
              have HDb : Hid (d = b.toNat) := hid (by have := HDD.out; omega)
              have wk1 : IntKind.i64.wrap ((k : Int) + (j : Int) + 1) = (k : Int) + (j : Int) + 1 := by rw [IntKind.wrap_i64]; have := HS.out; omega
              clear h128
              by_cases hz : d = 0 ∧ 0 < j
              · have zd : (d : Int) = 0 := by omega
                have zp : (0 : Int) < (j : Int) := by omega
                have HN : Hid (lastB b.toNat j = false) := hid (by
                  exact lastB_no (by have := HDb.out; omega) hz.2)
                go_wp2
                exact bodyPost_ret (v := takeZ) (by simp [results, Tryz.results99, go_sem, takeZ]) rfl ⟨by rw [HD3.out, HL.out, HN.out]; rfl, rfl⟩
              · have HN : Hid (lastB b.toNat j = true) := hid (by
                  exact lastB_yes (by have := HDb.out; omega) (by have := HDb.out; have := h89.out; omega))
                by_cases hd0 : d = 0
                · have zd : (d : Int) = 0 := by omega
                  have zp : ¬ (0 : Int) < (j : Int) := by omega
                  have zp2 : ¬ 0 < j := by omega
                  have HZ := hid hz
                  clear hz
                  go_wp2
                  exact bodyPost_ret (v := .tuple #[.int .u64 (o : Int), .int .i64 ((k : Int) + (j : Int) + 1), .bool true]) (by simp [results, Tryz.results99, go_sem]) rfl ⟨by rw [HD3.out, HL.out, HN.out]; exact ret_take (by rw [HOO.out, HDb.out]) (by omega), rfl⟩
                · have zd : ¬ (d : Int) = 0 := by omega
                  go_wp2
                  exact bodyPost_ret (v := .tuple #[.int .u64 (o : Int), .int .i64 ((k : Int) + (j : Int) + 1), .bool true]) (by simp [results, Tryz.results99, go_sem]) rfl ⟨by rw [HD3.out, HL.out, HN.out]; exact ret_take (by rw [HOO.out, HDb.out]) (by omega), rfl⟩
            · have z128 : ¬ (b.toNat : Int) < 128 := by omega
              have HL := hid (takeG_more (l := s.data.toList.drop (k + (j + 1))) (x := y) hlt h128)
              clear h128
              go_wp2
              go_round
              case rel =>
                refine ⟨j + 1, o, q2, by omega, by push_cast; rfl, rfl, rfl, hid ⟨by rw [HOO.out]; exact HSU.out.2.1, ?_, fun h => ⟨by rw [HOO.out]; exact HSU.out.2.2 (by omega), HQ2.out (by omega)⟩⟩⟩
                rw [HD3.out, HL.out, HOO.out, HDD.out]
              case measure => simp [intOf]; omega
        · have z3 : ¬ (j : Int) < (s.size : Int) - (k : Int) := by omega
          have HE := hid (HI.out.fin (Or.inr (by omega)))
          clear HI
          go_wp2
          exact bodyPost_ret (v := takeZ) (by simp [results, Tryz.results99, go_sem, takeZ]) rfl ⟨by rw [HE.out]; rfl, rfl⟩
      · have z2 : ¬ (k : Int) < (s.size : Int) := by omega
        have HE := hid (HI.out.fin (Or.inr (by omega)))
        clear HI
        go_wp2
        exact bodyPost_ret (v := takeZ) (by simp [results, Tryz.results99, go_sem, takeZ]) rfl ⟨by rw [HE.out]; rfl, rfl⟩
    · have zj : ¬ (j : Int) < 10 := by omega
      have HE := hid (HI.out.fin (Or.inl (by omega)))
      clear HI
      go_wp2
      exact bodyPost_ret (v := takeZ) (by simp [results, Tryz.results99, go_sem, takeZ]) rfl ⟨by rw [HE.out]; rfl, rfl⟩
end Go.Proofs.YtpefbmheblfbeaaGreat.Sn
/- The contract of the document's reader for a number; the text's length is a number of the language's, the reader stands within the text. -/
namespace Go.Proofs.YtpefbmheblfbeaaGreat.Sn
open Go.RowKit Go.Sort Go.Shelf Me
set_option linter.unusedVariables false
set_option linter.unusedSimpArgs false
def rv (s : ByteArray) (x : Rd) : Value := .agg #[.string s, .int .i64 x.at_, .int .i64 x.er]
theorem passS_ok {x : Rd} (h : x.er = 0) (n : Int) (b : Bool) : passS x n b = if b = true then ⟨n, 0⟩ else ⟨x.at_, 200⟩ := by unfold passS; rw [if_neg (by simpa using h)]
theorem passB_ok {x : Rd} (h : x.er = 0) (b : Bool) : passB x b = b := by unfold passB; rw [if_neg (by simpa using h)]
theorem passS_bad {x : Rd} (h : ¬ x.er = 0) (n : Int) (b : Bool) : passS x n b = x := by unfold passS; rw [if_pos h]
theorem passB_bad {x : Rd} (h : ¬ x.er = 0) (b : Bool) : passB x b = false := by unfold passB; rw [if_pos h]
set_option maxRecDepth 20000 in
set_option maxHeartbeats 2000000 in
theorem dnum_ (w : World) (s : ByteArray) (x : Rd) (hi : Rin s x) (hs : s.size ≤ 140737488351232) (least most : Int) (l0 : 0 ≤ least) (m0 : 0 ≤ most) : Calls Tryz.prog 50 #[rv s x, .int .u64 least, .int .u64 most] w fun e w' => e = .returned (.tuple #[rv s (numR s x least most).1, .int .u64 (numR s x least most).2]) ∧ Touch [] w w' := by
  obtain ⟨n, nx, th, ht, n0, n1, e1, e2⟩ := numR_pass s x least most
  have HT : Hid (∀ w', Calls Tryz.prog 99 #[.string s, .int .i64 x.at_] w' fun e w'' => e = .returned (.tuple #[.int .u64 n, .int .i64 nx, .bool th]) ∧ w'' = w') := hid (fun w' => (rtake_ w' s x.at_ (by omega) (by have := hi.1; omega) (by have := hi.2; omega)).mono fun e w'' ⟨h1, h2⟩ => ⟨by rw [h1, ht], h2⟩)
  rw [e1, e2]
  clear e1 e2 ht hi hs
  by_cases he : x.er = 0
  · rw [passS_ok he, passB_ok he]
    unfold rv
    cases th with
    | false =>
      simp only [Bool.false_and, if_false, Bool.false_eq_true]
      rw [he]
      go_enter Tryz.func50, Tryz.ntmps50
      go_wp2_with (go_at_call 99; refine (HT.out _).mono ?_; rintro e w1 ⟨rfl, rfl⟩)
      exact bodyPost_ret (v := .tuple #[.agg #[.string s, .int .i64 x.at_, .int .i64 200], .int .u64 0]) (by simp [results, Tryz.results50, go_sem]) rfl ⟨rfl, by repeat (first | exact Touch.refl _ _ | (refine Touch.setCell ?_ (Or.inr (by simp)) _) | (refine Touch.alloc ?_ _))⟩
    | true =>
      by_cases ha : least ≤ n
      · by_cases hb : n ≤ most
        · simp only [ha, hb, decide_true, Bool.and_true, if_true]
          rw [he]
          have za : ¬ n < least := by omega
          have zb : ¬ most < n := by omega
          clear ha hb
          go_enter Tryz.func50, Tryz.ntmps50
          go_wp2_with (go_at_call 99; refine (HT.out _).mono ?_; rintro e w1 ⟨rfl, rfl⟩)
          exact bodyPost_ret (v := .tuple #[.agg #[.string s, .int .i64 nx, .int .i64 0], .int .u64 n]) (by simp [results, Tryz.results50, go_sem]) rfl ⟨rfl, by repeat (first | exact Touch.refl _ _ | (refine Touch.setCell ?_ (Or.inr (by simp)) _) | (refine Touch.alloc ?_ _))⟩
        · simp only [ha, hb, decide_true, decide_false, Bool.and_false, if_false, Bool.false_eq_true]
          rw [he]
          have za : ¬ n < least := by omega
          have zb : most < n := by omega
          clear ha hb
          go_enter Tryz.func50, Tryz.ntmps50
          go_wp2_with (go_at_call 99; refine (HT.out _).mono ?_; rintro e w1 ⟨rfl, rfl⟩)
          exact bodyPost_ret (v := .tuple #[.agg #[.string s, .int .i64 x.at_, .int .i64 200], .int .u64 0]) (by simp [results, Tryz.results50, go_sem]) rfl ⟨rfl, by repeat (first | exact Touch.refl _ _ | (refine Touch.setCell ?_ (Or.inr (by simp)) _) | (refine Touch.alloc ?_ _))⟩
      · simp only [ha, decide_false, Bool.false_and, Bool.and_false, if_false, Bool.false_eq_true]
        rw [he]
        have za : n < least := by omega
        clear ha
        go_enter Tryz.func50, Tryz.ntmps50
        go_wp2_with (go_at_call 99; refine (HT.out _).mono ?_; rintro e w1 ⟨rfl, rfl⟩)
        exact bodyPost_ret (v := .tuple #[.agg #[.string s, .int .i64 x.at_, .int .i64 200], .int .u64 0]) (by simp [results, Tryz.results50, go_sem]) rfl ⟨rfl, by repeat (first | exact Touch.refl _ _ | (refine Touch.setCell ?_ (Or.inr (by simp)) _) | (refine Touch.alloc ?_ _))⟩
  · rw [passS_bad he, passB_bad he]
    unfold rv
    have hb : (x.er != 0) = true := by simpa using he
    have hb' : (x.er == 0) = false := by simpa using he
    simp only [Bool.false_eq_true, if_false]
    go_enter Tryz.func50, Tryz.ntmps50
    go_wp2
    exact bodyPost_ret (v := .tuple #[.agg #[.string s, .int .i64 x.at_, .int .i64 x.er], .int .u64 0]) (by simp [results, Tryz.results50, go_sem]) rfl ⟨rfl, by repeat (first | exact Touch.refl _ _ | (refine Touch.setCell ?_ (Or.inr (by simp)) _) | (refine Touch.alloc ?_ _))⟩
end Go.Proofs.YtpefbmheblfbeaaGreat.Sn
/- The contracts of the document's reader: the eight bytes ahead; the text's length is a number of the language's, the reader stands within the text. -/
namespace Go.Proofs.YtpefbmheblfbeaaGreat.Sn
open Go.RowKit Go.Sort Go.Shelf Me
set_option linter.unusedVariables false
set_option linter.unusedSimpArgs false
set_option maxRecDepth 20000 in
set_option maxHeartbeats 2000000 in
theorem dname_ (w : World) (s : ByteArray) (x : Rd) (hi : Rin s x) (hs : s.size ≤ 140737488351232) (m : ByteArray) (hm : m.size = 8) : Calls Tryz.prog 49 #[rv s x, .string m] w fun e w' => e = .returned (rv s (markR s x m.data.toList)) ∧ Touch [] w w' := by
  obtain ⟨k, hk⟩ : ∃ k : Nat, x.at_ = (k : Int) := ⟨x.at_.toNat, by have := hi.1; omega⟩
  have hks : k ≤ s.size := by have := hi.2; omega
  have ek : x.at_.toNat = k := by omega
  have em : m.data.toList.length = 8 := by rw [Array.length_toList]; exact hm
  unfold markR
  rw [ek, hk, em]
  have wd : IntKind.i64.wrap ((s.size : Int) - (k : Int)) = (s.size : Int) - (k : Int) := by rw [IntKind.wrap_i64]; omega
  have wk : IntKind.i64.wrap ((k : Int) + 8) = (k : Int) + 8 := by rw [IntKind.wrap_i64]; omega
  obtain ⟨xa, xe⟩ := x
  simp only at hk ek
  subst hk
  by_cases he : xe = 0
  · subst he
    rw [passS_ok rfl]
    by_cases h8 : (s.size : Int) - (k : Int) < 8
    · have hp : prefB (s.data.toList.drop k) m.data.toList = false := prefB_short (by rw [List.length_drop, Array.length_toList, em]; show s.size - k < 8; omega)
      rw [hp]
      simp only [Bool.false_eq_true, if_false]
      unfold rv
      clear hi hs hks hp em hm ek
      go_enter Tryz.func49, Tryz.ntmps49
      go_wp2
      exact bodyPost_ret (v := .agg #[.string s, .int .i64 (k : Int), .int .i64 200]) (by simp [results, Tryz.results49, go_sem]) rfl ⟨rfl, by repeat (first | exact Touch.refl _ _ | (refine Touch.setCell ?_ (Or.inr (by simp)) _) | (refine Touch.alloc ?_ _))⟩
    · have z0 : (0 : Int) ≤ (k : Int) := by omega
      have z1 : (k : Int) + 8 ≤ (s.size : Int) := by omega
      have sl : ∀ w, (Instr.slice 9 (.string s) (some (.int .i64 (k : Int))) (some (.int .i64 ((k : Int) + 8))) none).run Tryz.prog w = .ok (.string (s.extract k (k + 8))) w := fun w => by
        rw [run_slice_string w 9 s .i64 .i64 _ _ Tryz.underlying9 (by omega) (by omega) (by omega), show ((k : Int)).toNat = k by omega, show ((k : Int) + 8).toNat = k + 8 by omega]
      have hp : prefB (s.data.toList.drop k) m.data.toList = decide ((s.extract k (k + 8)) = m) := by
        unfold prefB
        rw [em, Bool.eq_iff_iff, decide_eq_true_eq, decide_eq_true_eq]
        have e2 : (s.extract k (k + 8)).data.toList = (s.data.toList.drop k).take 8 := by rw [extract_data, List.drop_take]; congr 1; omega
        constructor
        · intro e; exact Go.WideShapes.bytes_inj (by rw [e2, e])
        · intro e; rw [← e2, e]
      rw [hp]
      by_cases hx : s.extract k (k + 8) = m
      · have hb : ((s.extract k (k + 8)).toList == m.toList) = true := by rw [hx]; simp
        have hb2 : ((s.extract k (k + 8)).toList != m.toList) = false := by rw [hx]; simp
        rw [decide_eq_true hx]
        simp only [if_true]
        unfold rv
        clear hi hs hks hp em hm ek hx
        go_enter Tryz.func49, Tryz.ntmps49
        go_wp2
        exact bodyPost_ret (v := .agg #[.string s, .int .i64 ((k : Int) + 8), .int .i64 0]) (by simp [results, Tryz.results49, go_sem]) rfl ⟨rfl, by repeat (first | exact Touch.refl _ _ | (refine Touch.setCell ?_ (Or.inr (by simp)) _) | (refine Touch.alloc ?_ _))⟩
      · have hb : ((s.extract k (k + 8)).toList == m.toList) = false := by rw [Bool.eq_false_iff]; intro e; exact hx ((toList_iff _ _).1 (by simpa using e))
        have hb2 : ((s.extract k (k + 8)).toList != m.toList) = true := by simp [bne, hb]
        rw [decide_eq_false hx]
        simp only [Bool.false_eq_true, if_false]
        unfold rv
        clear hi hs hks hp em hm ek hx
        go_enter Tryz.func49, Tryz.ntmps49
        go_wp2
        exact bodyPost_ret (v := .agg #[.string s, .int .i64 (k : Int), .int .i64 200]) (by simp [results, Tryz.results49, go_sem]) rfl ⟨rfl, by repeat (first | exact Touch.refl _ _ | (refine Touch.setCell ?_ (Or.inr (by simp)) _) | (refine Touch.alloc ?_ _))⟩
  · rw [passS_bad he]
    have hb : (xe != 0) = true := by simpa using he
    have hb' : (xe == 0) = false := by simpa using he
    unfold rv
    clear hi hs hks em hm ek
    go_enter Tryz.func49, Tryz.ntmps49
    go_wp2
    exact bodyPost_ret (v := .agg #[.string s, .int .i64 (k : Int), .int .i64 xe]) (by simp [results, Tryz.results49, go_sem]) rfl ⟨rfl, by repeat (first | exact Touch.refl _ _ | (refine Touch.setCell ?_ (Or.inr (by simp)) _) | (refine Touch.alloc ?_ _))⟩
end Go.Proofs.YtpefbmheblfbeaaGreat.Sn
/- The contract of the document's finish; the text's length is a number of the language's, the reader stands within the text. -/
namespace Go.Proofs.YtpefbmheblfbeaaGreat.Sn
open Go.RowKit Go.Sort Go.Shelf Me
set_option linter.unusedVariables false
set_option linter.unusedSimpArgs false
set_option maxRecDepth 20000 in
set_option maxHeartbeats 2000000 in
theorem dfin_ (w : World) (s : ByteArray) (x : Rd) (hi : Rin s x) (hs : s.size ≤ 140737488351232) : Calls Tryz.prog 53 #[rv s x] w fun e w' => e = .returned (rv s (finR s x)) ∧ Touch [] w w' := by
  obtain ⟨k, hk⟩ : ∃ k : Nat, x.at_ = (k : Int) := ⟨x.at_.toNat, by have := hi.1; omega⟩
  have hks : k ≤ s.size := by have := hi.2; omega
  obtain ⟨xa, xe⟩ := x
  simp only at hk
  subst hk
  have wd : IntKind.i64.wrap ((s.size : Int) - (k : Int)) = (s.size : Int) - (k : Int) := by rw [IntKind.wrap_i64]; omega
  have wk : IntKind.i64.wrap ((k : Int) + 8) = (k : Int) + 8 := by rw [IntKind.wrap_i64]; omega
  unfold finR
  simp only
  by_cases he : xe = 0
  · subst he
    rw [if_neg (by simp)]
    by_cases h8 : (s.size : Int) - (k : Int) < 8
    · rw [if_pos h8]
      unfold rv
      clear hi hs hks
      go_enter Tryz.func53, Tryz.ntmps53
      go_wp2
      exact bodyPost_ret (v := .agg #[.string s, .int .i64 (k : Int), .int .i64 200]) (by simp [results, Tryz.results53, go_sem]) rfl ⟨rfl, by repeat (first | exact Touch.refl _ _ | (refine Touch.setCell ?_ (Or.inr (by simp)) _) | (refine Touch.alloc ?_ _))⟩
    · rw [if_neg h8]
      have hes : (s.extract 0 k).data.toList = s.data.toList.take k := by rw [extract_data, List.drop_zero]
      have HV : Hid (∀ w', Calls Tryz.prog 25 #[.string s, .int .i64 k] w' fun e w'' => e = .returned (.int .u64 (val8 (s.data.toList.drop k) : Nat)) ∧ Touch [] w' w'') := hid (fun w' => (rvalue8_ w' s k (by omega) (by omega)).mono fun e w'' ⟨h1, h2⟩ => ⟨h1, by rw [h2]; exact Touch.refl _ _⟩)
      have HU : Hid (∀ w', Calls Tryz.prog 26 #[.string (s.extract 0 k)] w' fun e w'' => e = .returned (.int .u64 (sumL (s.data.toList.take k) : Nat)) ∧ Touch [] w' w'') := hid (fun w' => (rsum_ (s.extract 0 k) (by rw [ByteArray.size_extract]; omega) w').mono fun e w'' ⟨h1, h2⟩ => ⟨by rw [h1, hes], by rw [h2]; exact Touch.refl _ _⟩)
      have z0 : (0 : Int) ≤ (k : Int) := by omega
      have z1 : (k : Int) ≤ (s.size : Int) := by omega
      have sl : ∀ w, (Instr.slice 9 (.string s) none (some (.int .i64 (k : Int))) none).run Tryz.prog w = .ok (.string (s.extract 0 k)) w := fun w => by go_simp
      rw [show ((k : Int)).toNat = k by omega]
      generalize val8 (s.data.toList.drop k) = vv at *
      generalize sumL (s.data.toList.take k) = uu at *
      obtain ⟨V, hV⟩ : ∃ V, V = (w.alloc (.cells #[.string s, .int .i64 (k : Int), .int .i64 0] 113)).alloc (.cells #[.string ⟨#[]⟩, .int .i64 0, .int .i64 0] 113) := ⟨_, rfl⟩
      have TV : Touch [] w V := by rw [hV]; exact ((Touch.refl _ _).alloc _).alloc _
      have hb1 : V.heap[w.heap.size]? = some (.cells #[.string s, .int .i64 (k : Int), .int .i64 0] 113 (0, 0)) := by rw [hV]; exact ((Touch.refl [] _).alloc _).keep (heap_alloc_new w _) (by simp)
      have hb2 : V.heap[w.heap.size + 1]? = some (.cells #[.string ⟨#[]⟩, .int .i64 0, .int .i64 0] 113 (0, 0)) := by
        have := heap_alloc_new (w.alloc (.cells #[.string s, .int .i64 (k : Int), .int .i64 0] 113)) (.cells #[.string ⟨#[]⟩, .int .i64 0, .int .i64 0] 113)
        rw [hV]; simpa using this
      have C0 : ∀ w', Touch [] V w' → w'.cell? ⟨w.heap.size, 0, none⟩ = some (.string s) := fun w' t => cell_at (t.keep hb1 (by simp)) rfl
      have C1 : ∀ w', Touch [] V w' → w'.cell? ⟨w.heap.size, 1, none⟩ = some (.int .i64 (k : Int)) := fun w' t => cell_at (t.keep hb1 (by simp)) rfl
      have c0 := C0 V (Touch.refl _ _)
      have c1 := C1 V (Touch.refl _ _)
      have c2 := cell_of (n := 2) hb1 rfl
      have zz := block_lt hb1
      unfold rv
      clear hi hs hks hes
      have HTV := hid TV
      have HB1 := hid hb1
      have HB2 := hid hb2
      clear TV hb1 hb2
      by_cases hv : vv = uu
      · have hbv : ((vv : Int) != (uu : Int)) = false := by rw [hv]; simp
        rw [if_neg (by simpa using hv)]
        by_cases h9 : 8 < (s.size : Int) - (k : Int)
        · rw [if_pos h9]
          go_enter Tryz.func53, Tryz.ntmps53
          go_upto_region 1 with fail
          rw [← hV]
          clear hV
          go_upto_region 4 with fail
          go_cut [16] from 17 to 28 (fun b wx => b = .bool false ∧ Touch [] V wx)
          case first =>
            go_region_held3 (fun w' => Touch [] V w') (first | assumption | exact (Touch.refl _ _).drew | exact Touch.refl _ _ | exact Touch.drew (by assumption))
              (first
                | (go_at_call 25; refine (HV.out _).mono ?_; rintro e w1 ⟨rfl, t1⟩; have T1 : Touch [] V w1 := Touch.trans' (by assumption) t1; clear t1)
                | (go_at_call 26; refine (HU.out _).mono ?_; rintro e w2 ⟨rfl, t2⟩; have T2 : Touch [] V w2 := Touch.trans' (by assumption) t2; clear t2))
            all_goals
              go_wp2_with fail
              go_meet
              exact ⟨rfl, by assumption⟩
          case rest =>
            obtain ⟨rfl, TX⟩ := hcut
            have hb1c := TX.keep HB1.out (by simp)
            have hb2c := TX.keep HB2.out (by simp)
            have HTW := hid (HTV.out.trans' TX)
            clear C0 C1 c0 c1 c2 HV HU
            have d0 := cell_of (n := 0) hb1c rfl
            have d1 := cell_of (n := 1) hb1c rfl
            have d2 := cell_of (n := 2) hb1c rfl
            have f1 := froz_at hb1c 1
            have f2 := froz_at hb1c 2
            go_upto_region 9 with fail
            obtain ⟨W1, hW1⟩ : ∃ W1, W1 = ((wc).setCell ⟨w.heap.size, 1, none⟩ (.int .i64 ((k : Int) + 8))).setCell ⟨w.heap.size, 2, none⟩ (.int .i64 200) := ⟨_, rfl⟩
            have t1 : Touch [w.heap.size] wc W1 := by rw [hW1]; exact (((Touch.refl [w.heap.size] wc).setCell (p := ⟨w.heap.size, 1, none⟩) (Or.inl (by simp)) (.int .i64 ((k : Int) + 8))).setCell (p := ⟨w.heap.size, 2, none⟩) (Or.inl (by simp)) (.int .i64 200))
            have hb1d : W1.heap[w.heap.size]? = some (.cells #[.string s, .int .i64 ((k : Int) + 8), .int .i64 200] 113 (0, 0)) := by rw [hW1]; exact (bset (i := 2) (bset (i := 1) hb1c (.int .i64 ((k : Int) + 8))) (.int .i64 200))
            have hb2d := t1.keep hb2c (by simp)
            rw [← hW1]
            clear hW1 d0 d1 d2 f1 f2
            have x0 := cell_of (n := 0) hb1d rfl
            have x1 := cell_of (n := 1) hb1d rfl
            have x2 := cell_of (n := 2) hb1d rfl
            have y0 := cell_of (n := 0) hb2d rfl
            have y1 := cell_of (n := 1) hb2d rfl
            have y2 := cell_of (n := 2) hb2d rfl
            have g0 := froz_at hb2d 0
            have g1 := froz_at hb2d 1
            have g2 := froz_at hb2d 2
            go_wp2_with fail
            obtain ⟨W9, hW9⟩ : ∃ W9, W9 = (((W1).setCell ⟨w.heap.size + 1, 0, none⟩ (.string s)).setCell ⟨w.heap.size + 1, 1, none⟩ (.int .i64 ((k : Int) + 8))).setCell ⟨w.heap.size + 1, 2, none⟩ (.int .i64 200) := ⟨_, rfl⟩
            have t9 : Touch [w.heap.size + 1] W1 W9 := by rw [hW9]; exact ((((Touch.refl [w.heap.size + 1] W1).setCell (p := ⟨w.heap.size + 1, 0, none⟩) (Or.inl (by simp)) (.string s)).setCell (p := ⟨w.heap.size + 1, 1, none⟩) (Or.inl (by simp)) (.int .i64 ((k : Int) + 8))).setCell (p := ⟨w.heap.size + 1, 2, none⟩) (Or.inl (by simp)) (.int .i64 200))
            have hb9 : W9.heap[w.heap.size + 1]? = some (.cells #[.string s, .int .i64 ((k : Int) + 8), .int .i64 200] 113 (0, 0)) := by rw [hW9]; exact (bset (i := 2) (bset (i := 1) (bset (i := 0) hb2d (.string s)) (.int .i64 ((k : Int) + 8))) (.int .i64 200))
            rw [← hW9]
            clear hW9 x0 x1 x2 y0 y1 y2 g0 g1 g2
            have u0 : W9.cell? ⟨w.heap.size + 1, 0, none⟩ = some (.string s) := cell_of hb9 rfl
            have u1 : W9.cell? ⟨w.heap.size + 1, 1, none⟩ = some (.int .i64 ((k : Int) + 8)) := cell_of hb9 rfl
            have u2 : W9.cell? ⟨w.heap.size + 1, 2, none⟩ = some (.int .i64 200) := cell_of hb9 rfl
            exact bodyPost_ret (v := .agg #[.string s, .int .i64 ((k : Int) + 8), .int .i64 200]) (by simp [results, Tryz.results53, go_sem, u0, u1, u2]) rfl ⟨rfl, (HTW.out.trans t1 (fun k hk => by simp at hk; omega)).trans t9 (fun k hk => by simp at hk; omega)⟩
        · rw [if_neg h9]
          go_enter Tryz.func53, Tryz.ntmps53
          go_upto_region 1 with fail
          rw [← hV]
          clear hV
          go_upto_region 4 with fail
          go_cut [16] from 17 to 28 (fun b wx => b = .bool false ∧ Touch [] V wx)
          case first =>
            go_region_held3 (fun w' => Touch [] V w') (first | assumption | exact (Touch.refl _ _).drew | exact Touch.refl _ _ | exact Touch.drew (by assumption))
              (first
                | (go_at_call 25; refine (HV.out _).mono ?_; rintro e w1 ⟨rfl, t1⟩; have T1 : Touch [] V w1 := Touch.trans' (by assumption) t1; clear t1)
                | (go_at_call 26; refine (HU.out _).mono ?_; rintro e w2 ⟨rfl, t2⟩; have T2 : Touch [] V w2 := Touch.trans' (by assumption) t2; clear t2))
            all_goals
              go_wp2_with fail
              go_meet
              exact ⟨rfl, by assumption⟩
          case rest =>
            obtain ⟨rfl, TX⟩ := hcut
            have hb1c := TX.keep HB1.out (by simp)
            have hb2c := TX.keep HB2.out (by simp)
            have HTW := hid (HTV.out.trans' TX)
            clear C0 C1 c0 c1 c2 HV HU
            have d0 := cell_of (n := 0) hb1c rfl
            have d1 := cell_of (n := 1) hb1c rfl
            have d2 := cell_of (n := 2) hb1c rfl
            have f1 := froz_at hb1c 1
            have f2 := froz_at hb1c 2
            go_upto_region 9 with fail
            obtain ⟨W1, hW1⟩ : ∃ W1, W1 = wc := ⟨_, rfl⟩
            have t1 : Touch [w.heap.size] wc W1 := by rw [hW1]; exact (Touch.refl [w.heap.size] wc)
            have hb1d : W1.heap[w.heap.size]? = some (.cells #[.string s, .int .i64 (k : Int), .int .i64 0] 113 (0, 0)) := by rw [hW1]; exact hb1c
            have hb2d := t1.keep hb2c (by simp)
            rw [← hW1]
            clear hW1 d0 d1 d2 f1 f2
            have x0 := cell_of (n := 0) hb1d rfl
            have x1 := cell_of (n := 1) hb1d rfl
            have x2 := cell_of (n := 2) hb1d rfl
            have y0 := cell_of (n := 0) hb2d rfl
            have y1 := cell_of (n := 1) hb2d rfl
            have y2 := cell_of (n := 2) hb2d rfl
            have g0 := froz_at hb2d 0
            have g1 := froz_at hb2d 1
            have g2 := froz_at hb2d 2
            go_wp2_with fail
            obtain ⟨W9, hW9⟩ : ∃ W9, W9 = (((W1).setCell ⟨w.heap.size + 1, 0, none⟩ (.string s)).setCell ⟨w.heap.size + 1, 1, none⟩ (.int .i64 (k : Int))).setCell ⟨w.heap.size + 1, 2, none⟩ (.int .i64 0) := ⟨_, rfl⟩
            have t9 : Touch [w.heap.size + 1] W1 W9 := by rw [hW9]; exact ((((Touch.refl [w.heap.size + 1] W1).setCell (p := ⟨w.heap.size + 1, 0, none⟩) (Or.inl (by simp)) (.string s)).setCell (p := ⟨w.heap.size + 1, 1, none⟩) (Or.inl (by simp)) (.int .i64 (k : Int))).setCell (p := ⟨w.heap.size + 1, 2, none⟩) (Or.inl (by simp)) (.int .i64 0))
            have hb9 : W9.heap[w.heap.size + 1]? = some (.cells #[.string s, .int .i64 (k : Int), .int .i64 0] 113 (0, 0)) := by rw [hW9]; exact (bset (i := 2) (bset (i := 1) (bset (i := 0) hb2d (.string s)) (.int .i64 (k : Int))) (.int .i64 0))
            rw [← hW9]
            clear hW9 x0 x1 x2 y0 y1 y2 g0 g1 g2
            have u0 : W9.cell? ⟨w.heap.size + 1, 0, none⟩ = some (.string s) := cell_of hb9 rfl
            have u1 : W9.cell? ⟨w.heap.size + 1, 1, none⟩ = some (.int .i64 (k : Int)) := cell_of hb9 rfl
            have u2 : W9.cell? ⟨w.heap.size + 1, 2, none⟩ = some (.int .i64 0) := cell_of hb9 rfl
            exact bodyPost_ret (v := .agg #[.string s, .int .i64 (k : Int), .int .i64 0]) (by simp [results, Tryz.results53, go_sem, u0, u1, u2]) rfl ⟨rfl, (HTW.out.trans t1 (fun k hk => by simp at hk; omega)).trans t9 (fun k hk => by simp at hk; omega)⟩
      · have hbv : ((vv : Int) != (uu : Int)) = true := by simp; omega
        rw [if_pos hv]
        go_enter Tryz.func53, Tryz.ntmps53
        go_upto_region 1 with fail
        rw [← hV]
        clear hV
        go_upto_region 4 with fail
        go_cut [16] from 17 to 28 (fun b wx => b = .bool true ∧ Touch [] V wx)
        case first =>
          go_region_held3 (fun w' => Touch [] V w') (first | assumption | exact (Touch.refl _ _).drew | exact Touch.refl _ _ | exact Touch.drew (by assumption))
            (first
              | (go_at_call 25; refine (HV.out _).mono ?_; rintro e w1 ⟨rfl, t1⟩; have T1 : Touch [] V w1 := Touch.trans' (by assumption) t1; clear t1)
              | (go_at_call 26; refine (HU.out _).mono ?_; rintro e w2 ⟨rfl, t2⟩; have T2 : Touch [] V w2 := Touch.trans' (by assumption) t2; clear t2))
          all_goals
            go_wp2_with fail
            go_meet
            exact ⟨rfl, by assumption⟩
        case rest =>
          obtain ⟨rfl, TX⟩ := hcut
          have hb1c := TX.keep HB1.out (by simp)
          have hb2c := TX.keep HB2.out (by simp)
          have HTW := hid (HTV.out.trans' TX)
          clear C0 C1 c0 c1 c2 HV HU
          have d0 := cell_of (n := 0) hb1c rfl
          have d1 := cell_of (n := 1) hb1c rfl
          have d2 := cell_of (n := 2) hb1c rfl
          have f1 := froz_at hb1c 1
          have f2 := froz_at hb1c 2
          go_upto_region 9 with fail
          obtain ⟨W1, hW1⟩ : ∃ W1, W1 = (wc).setCell ⟨w.heap.size, 2, none⟩ (.int .i64 201) := ⟨_, rfl⟩
          have t1 : Touch [w.heap.size] wc W1 := by rw [hW1]; exact ((Touch.refl [w.heap.size] wc).setCell (p := ⟨w.heap.size, 2, none⟩) (Or.inl (by simp)) (.int .i64 201))
          have hb1d : W1.heap[w.heap.size]? = some (.cells #[.string s, .int .i64 (k : Int), .int .i64 201] 113 (0, 0)) := by rw [hW1]; exact (bset (i := 2) hb1c (.int .i64 201))
          have hb2d := t1.keep hb2c (by simp)
          rw [← hW1]
          clear hW1 d0 d1 d2 f1 f2
          have x0 := cell_of (n := 0) hb1d rfl
          have x1 := cell_of (n := 1) hb1d rfl
          have x2 := cell_of (n := 2) hb1d rfl
          have y0 := cell_of (n := 0) hb2d rfl
          have y1 := cell_of (n := 1) hb2d rfl
          have y2 := cell_of (n := 2) hb2d rfl
          have g0 := froz_at hb2d 0
          have g1 := froz_at hb2d 1
          have g2 := froz_at hb2d 2
          go_wp2_with fail
          obtain ⟨W9, hW9⟩ : ∃ W9, W9 = (((W1).setCell ⟨w.heap.size + 1, 0, none⟩ (.string s)).setCell ⟨w.heap.size + 1, 1, none⟩ (.int .i64 (k : Int))).setCell ⟨w.heap.size + 1, 2, none⟩ (.int .i64 201) := ⟨_, rfl⟩
          have t9 : Touch [w.heap.size + 1] W1 W9 := by rw [hW9]; exact ((((Touch.refl [w.heap.size + 1] W1).setCell (p := ⟨w.heap.size + 1, 0, none⟩) (Or.inl (by simp)) (.string s)).setCell (p := ⟨w.heap.size + 1, 1, none⟩) (Or.inl (by simp)) (.int .i64 (k : Int))).setCell (p := ⟨w.heap.size + 1, 2, none⟩) (Or.inl (by simp)) (.int .i64 201))
          have hb9 : W9.heap[w.heap.size + 1]? = some (.cells #[.string s, .int .i64 (k : Int), .int .i64 201] 113 (0, 0)) := by rw [hW9]; exact (bset (i := 2) (bset (i := 1) (bset (i := 0) hb2d (.string s)) (.int .i64 (k : Int))) (.int .i64 201))
          rw [← hW9]
          clear hW9 x0 x1 x2 y0 y1 y2 g0 g1 g2
          have u0 : W9.cell? ⟨w.heap.size + 1, 0, none⟩ = some (.string s) := cell_of hb9 rfl
          have u1 : W9.cell? ⟨w.heap.size + 1, 1, none⟩ = some (.int .i64 (k : Int)) := cell_of hb9 rfl
          have u2 : W9.cell? ⟨w.heap.size + 1, 2, none⟩ = some (.int .i64 201) := cell_of hb9 rfl
          exact bodyPost_ret (v := .agg #[.string s, .int .i64 (k : Int), .int .i64 201]) (by simp [results, Tryz.results53, go_sem, u0, u1, u2]) rfl ⟨rfl, (HTW.out.trans t1 (fun k hk => by simp at hk; omega)).trans t9 (fun k hk => by simp at hk; omega)⟩
  · rw [if_pos he]
    have hb : (xe != 0) = true := by simpa using he
    have hb' : (xe == 0) = false := by simpa using he
    unfold rv
    clear hi hs hks
    go_enter Tryz.func53, Tryz.ntmps53
    go_wp2
    exact bodyPost_ret (v := .agg #[.string s, .int .i64 (k : Int), .int .i64 xe]) (by simp [results, Tryz.results53, go_sem]) rfl ⟨rfl, by repeat (first | exact Touch.refl _ _ | (refine Touch.setCell ?_ (Or.inr (by simp)) _) | (refine Touch.alloc ?_ _))⟩
end Go.Proofs.YtpefbmheblfbeaaGreat.Sn
