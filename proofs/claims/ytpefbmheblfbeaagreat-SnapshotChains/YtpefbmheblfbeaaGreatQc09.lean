/- The contract of the program's reader's end: the sum of all that stands ahead, behind which nothing is left; the text's length is a number of the language's, the reader stands within the text. -/
import Derived.Test.YtpefbmheblfbeaaGreatQc07
import Derived.Test.YtpefbmheblfbeaaGreatQc08
import Derived.Test.YtpefbmheblfbeaaGreatQc01
import Derived.Deep.RegionHeld3
import Derived.Test.YtpefbmheblfbeaaGreatQc05
import Derived.Test.YtpefbmheblfbeaaGreatQc03
import Derived.Lib.SmallJoins
import Derived.Shelf.Small.Strs
import Derived.BigRegion
namespace Go.Proofs.YtpefbmheblfbeaaGreat.Sn
open Go.RowKit Go.Sort Go.Shelf Me
set_option linter.unusedVariables false
set_option linter.unusedSimpArgs false
def midR (s : ByteArray) (x : Rd) : Rd := if (sumR s x).1.er = 0 ∧ (sumR s x).2 ≠ sumL (s.data.toList.take x.at_.toNat) then ⟨x.at_, 201⟩ else (sumR s x).1
def endR (s : ByteArray) (x : Rd) : Rd := passS (midR s x) (midR s x).at_ (decide ((midR s x).at_ = (s.size : Int)))
def finR (s : ByteArray) (x : Rd) : Rd := if x.er ≠ 0 then x else if (s.size : Int) - x.at_ < 8 then ⟨x.at_, 200⟩ else if val8 (s.data.toList.drop x.at_.toNat) ≠ sumL (s.data.toList.take x.at_.toNat) then ⟨x.at_, 201⟩ else if 8 < (s.size : Int) - x.at_ then ⟨x.at_ + 8, 200⟩ else x
theorem end_fin (s : ByteArray) (x : Rd) : (endR s x).er = (finR s x).er ∧ ((finR s x).er ≠ 0 → (endR s x).at_ = (finR s x).at_) := by
  unfold endR midR sumR finR passS passB
  by_cases he : x.er = 0
  · by_cases h8 : 8 ≤ (s.size : Int) - x.at_
    · have h8' : ¬ (s.size : Int) - x.at_ < 8 := by omega
      by_cases hv : val8 (s.data.toList.drop x.at_.toNat) = sumL (s.data.toList.take x.at_.toNat)
      · by_cases h9 : 8 < (s.size : Int) - x.at_
        · have h10 : ¬ x.at_ + 8 = (s.size : Int) := by omega
          simp [he, h8, h8', hv, h9, h10]
        · have h10 : x.at_ + 8 = (s.size : Int) := by omega
          simp [he, h8, h8', hv, h9, h10]
      · simp [he, h8, h8', hv]
    · have h8' : (s.size : Int) - x.at_ < 8 := by omega
      simp [he, h8, h8']
  · simp [he]
set_option maxHeartbeats 4000000 in
theorem end_r {w : World} {r : Nat} {s : ByteArray} {x : Rd} (h : Rq w r s x) (hi : Rin s x) (hs : s.size ≤ 140737488351232) : Calls Tryz.prog 48 #[PT r] w fun e w' => e = .returned (.tuple #[]) ∧ Rq w' r s (endR s x) ∧ Touch [r] w w' := by
  obtain ⟨k, hk⟩ : ∃ k : Nat, x.at_ = (k : Int) := ⟨x.at_.toNat, by have := hi.1; omega⟩
  have hks : k ≤ s.size := by have := hi.2; omega
  have ek : x.at_.toNat = k := by omega
  have HS := hid (sum_r h hi hs)
  have hes : (s.extract 0 k).data.toList = s.data.toList.take k := by rw [extract_data, List.drop_zero]
  have HU : Hid (∀ w', Calls Tryz.prog 79 #[.string (s.extract 0 k)] w' fun e w'' => e = .returned (.int .u64 (sumL (s.data.toList.take k) : Nat)) ∧ w'' = w') := hid (fun w' => by
    have := sumOf_ (s.extract 0 k) (by rw [ByteArray.size_extract]; omega) w'
    rw [hes] at this
    exact this)
  have c1 := cell_of (n := 1) h rfl
  rw [hk] at c1
  have z0 : (0 : Int) ≤ (k : Int) := by omega
  have z1 : (k : Int) ≤ (s.size : Int) := by omega
  have sl : ∀ w, (Instr.slice 9 (.string s) none (some (.int .i64 (k : Int))) none).run Tryz.prog w = .ok (.string (s.extract 0 k)) w := fun w => by go_simp
  have HZ : Hid (∀ Z, Z = midR s x → endR s x = passS Z Z.at_ (decide (Z.at_ = (s.size : Int)))) := hid (fun Z e => by rw [e]; rfl)
  have HM : Hid (midR s x = if (sumR s x).1.er = 0 ∧ (sumR s x).2 ≠ sumL (s.data.toList.take k) then ⟨(k : Int), 201⟩ else (sumR s x).1) := hid (by unfold midR; rw [ek, hk])
  generalize midR s x = MM at *
  generalize endR s x = EE at *
  generalize (sumR s x).1 = y at *
  generalize (sumR s x).2 = v at *
  generalize sumL (s.data.toList.take k) = u at *
  have HQ : Hid (∀ w' Y, Rq w' r s Y → w'.cell? ⟨r, 0, none⟩ = some (.string s) ∧ w'.cell? ⟨r, 1, none⟩ = some (.int .i64 Y.at_) ∧ w'.cell? ⟨r, 2, none⟩ = some (.int .i64 Y.er) ∧ w'.frozen? ⟨r, 1, none⟩ = false ∧ w'.frozen? ⟨r, 2, none⟩ = false) := hid (fun w' Y q => ⟨cell_of (n := 0) q rfl, cell_of (n := 1) q rfl, cell_of (n := 2) q rfl, froz_at q 1, froz_at q 2⟩)
  clear hes hi hs hks ek h hk
  unfold PT at *
  go_enter Tryz.func48, Tryz.ntmps48
  go_upto_region 2 with (go_at_call 65; refine HS.out.mono ?_; rintro e w1 ⟨rfl, q1, t1⟩)
  clear c1
  obtain ⟨d0, d1, d2, f1, f2⟩ := HQ.out w1 y q1
  by_cases he : y.er = 0
  · rw [he] at d2
    by_cases hv : v = u
    · have hb : ((v : Int) != (u : Int)) = false := by rw [hv]; simp
      have HM' : MM = y := by rw [HM.out, if_neg (fun q => q.2 hv)]
      go_upto_region 4 with (go_at_call 79; refine (HU.out _).mono ?_; rintro e w2 ⟨rfl, h2⟩; subst h2)
      clear hv hb d0 d1 d2 f1 f2
      obtain ⟨Z, eZ⟩ : ∃ Z : Rd, Z = y := ⟨_, rfl⟩
      have qZ : Rq (w2).drew r s Z := by rw [eZ]; exact q1
      have TZ : Hid (Touch [r] w (w2).drew) := hid (t1).drew
      have HE := hid (HZ.out Z (by rw [eZ]; exact HM'.symm))
      obtain ⟨C0, C1, _⟩ := HQ.out _ Z qZ
      have HP := hid (pass_ qZ Z.at_ (decide (Z.at_ = (s.size : Int))))
      have hD : (Z.at_ == (s.size : Int)) = decide (Z.at_ = (s.size : Int)) := by rw [Bool.eq_iff_iff]; simp
      skip
      generalize passB Z (decide (Z.at_ = (s.size : Int))) = B' at *
      generalize passS Z Z.at_ (decide (Z.at_ = (s.size : Int))) = P' at *
      generalize decide (Z.at_ = (s.size : Int)) = D at *
      refine wp_region_H (S := fun _ => True) (by kernel_rfl) ?_
      unfold PT at HP
      generalize (w2).drew = Wd at *
      clear HQ HU sl HZ HM eZ
      refine wpH_take (i := 0) (v := (.pointer (some ⟨r, 0, none⟩))) (some 33) rfl rfl (by kernel_rfl) (by kernel_rfl) (by kernel_rfl) (fun _ _ _ h => h) (Or.inl ⟨by rfl, fun w' hS => (by go_simp)⟩) trivial ?_
      try simp only [Go.Act.put, List.setIfInBounds_toArray, List.set_cons_zero, List.set_cons_succ]
      refine wpH_take (i := 1) (v := (.pointer (some ⟨r, 0, none⟩))) (some 34) rfl rfl (by kernel_rfl) (by kernel_rfl) (by kernel_rfl) (fun _ _ _ h => h) (Or.inl ⟨by rfl, fun w' hS => (by go_simp)⟩) trivial ?_
      try simp only [Go.Act.put, List.setIfInBounds_toArray, List.set_cons_zero, List.set_cons_succ]
      refine wpH_take (i := 2) (v := (.pointer (some ⟨r, 0, none⟩))) (some 35) rfl rfl (by kernel_rfl) (by kernel_rfl) (by kernel_rfl) (fun _ _ _ h => h) (Or.inl ⟨by rfl, fun w' hS => (by go_simp)⟩) trivial ?_
      try simp only [Go.Act.put, List.setIfInBounds_toArray, List.set_cons_zero, List.set_cons_succ]
      refine wpH_take (i := 3) (v := (.pointer (some ⟨r, 1, none⟩))) (some 36) rfl rfl (by kernel_rfl) (by kernel_rfl) (by kernel_rfl) (fun _ _ _ h => h) (Or.inl ⟨by rfl, fun w' hS => (by go_simp)⟩) trivial ?_
      try simp only [Go.Act.put, List.setIfInBounds_toArray, List.set_cons_zero, List.set_cons_succ]
      refine wpH_take (i := 5) (v := (.pointer (some ⟨r, 0, none⟩))) (some 38) rfl rfl (by kernel_rfl) (by kernel_rfl) (by kernel_rfl) (fun _ _ _ h => h) (Or.inl ⟨by rfl, fun w' hS => (by go_simp)⟩) trivial ?_
      try simp only [Go.Act.put, List.setIfInBounds_toArray, List.set_cons_zero, List.set_cons_succ]
      refine wpH_take (i := 6) (v := (.pointer (some ⟨r, 0, none⟩))) (some 39) rfl rfl (by kernel_rfl) (by kernel_rfl) (by kernel_rfl) (fun _ _ _ h => h) (Or.inl ⟨by rfl, fun w' hS => (by go_simp)⟩) trivial ?_
      try simp only [Go.Act.put, List.setIfInBounds_toArray, List.set_cons_zero, List.set_cons_succ]
      refine wpH_take (i := 7) (v := (.pointer (some ⟨r, 1, none⟩))) (some 40) rfl rfl (by kernel_rfl) (by kernel_rfl) (by kernel_rfl) (fun _ _ _ h => h) (Or.inl ⟨by rfl, fun w' hS => (by go_simp)⟩) trivial ?_
      try simp only [Go.Act.put, List.setIfInBounds_toArray, List.set_cons_zero, List.set_cons_succ]
      refine wpH_take (i := 9) (v := (.pointer (some ⟨r, 0, none⟩))) (some 42) rfl rfl (by kernel_rfl) (by kernel_rfl) (by kernel_rfl) (fun _ _ _ h => h) (Or.inl ⟨by rfl, fun w' hS => (by go_simp)⟩) trivial ?_
      try simp only [Go.Act.put, List.setIfInBounds_toArray, List.set_cons_zero, List.set_cons_succ]
      refine wpH_take (i := 10) (v := (.pointer (some ⟨r, 0, none⟩))) (some 43) rfl rfl (by kernel_rfl) (by kernel_rfl) (by kernel_rfl) (fun _ _ _ h => h) (Or.inl ⟨by rfl, fun w' hS => (by go_simp)⟩) trivial ?_
      try simp only [Go.Act.put, List.setIfInBounds_toArray, List.set_cons_zero, List.set_cons_succ]
      refine wpH_take (i := 11) (v := (.pointer (some ⟨r, 0, none⟩))) (some 44) rfl rfl (by kernel_rfl) (by kernel_rfl) (by kernel_rfl) (fun _ _ _ h => h) (Or.inl ⟨by rfl, fun w' hS => (by go_simp)⟩) trivial ?_
      try simp only [Go.Act.put, List.setIfInBounds_toArray, List.set_cons_zero, List.set_cons_succ]
      refine wpH_ready (rs := [4, 8, 12]) (by kernel_rfl) (by simp) ?_
      refine AllH.cons (o := { dst := some 37, op := Op.load 3 (Operand.tmp 36), type := 3, pos := _, after := #[{ on := 3, ground := Ground.data }], guard := none }) rfl (fun K' hK => ?_) ?_
      · rw [if_pos (by rfl)]
        have z1 := C1
        go_simp
        clear z1
        refine hK.out _ _ trivial ?_
        clear hK
        try simp only [Go.Act.put, List.setIfInBounds_toArray, List.set_cons_zero, List.set_cons_succ]
        refine wpH_ready (rs := [8, 12]) (by kernel_rfl) (by simp) ?_
        refine AllH.cons (o := { dst := some 41, op := Op.load 3 (Operand.tmp 40), type := 3, pos := _, after := #[{ on := 7, ground := Ground.data }], guard := none }) rfl (fun K' hK => ?_) ?_
        · rw [if_pos (by rfl)]
          have z2 := C1
          go_simp
          clear z2
          refine hK.out _ _ trivial ?_
          clear hK
          try simp only [Go.Act.put, List.setIfInBounds_toArray, List.set_cons_zero, List.set_cons_succ]
          refine wpH_call (i := 12) (o := { dst := some 45, op := Op.load 9 (Operand.tmp 44), type := 9, pos := _, after := #[{ on := 11, ground := Ground.data }], guard := none }) (by kernel_rfl) rfl (fun K' hK => ?_)
          rw [if_pos (by rfl)]
          have z3 := C0
          go_simp
          clear z3
          refine hK.out _ _ trivial ?_
          clear hK
          try simp only [Go.Act.put, List.setIfInBounds_toArray, List.set_cons_zero, List.set_cons_succ]
          refine wpH_take (i := 13) (v := (.int .i64 (s.size : Int))) (some 46) rfl rfl (by kernel_rfl) (by kernel_rfl) (by kernel_rfl) (fun _ _ _ h => h) (Or.inl ⟨by rfl, fun w' hS => (by go_simp)⟩) trivial ?_
          try simp only [Go.Act.put, List.setIfInBounds_toArray, List.set_cons_zero, List.set_cons_succ]
          refine wpH_take (i := 14) (v := (.bool D)) (some 47) rfl rfl (by kernel_rfl) (by kernel_rfl) (by kernel_rfl) (fun _ _ _ h => h) (Or.inl ⟨by rfl, fun w' hS => (by go_simp)⟩) trivial ?_
          try simp only [Go.Act.put, List.setIfInBounds_toArray, List.set_cons_zero, List.set_cons_succ]
          refine wpH_call (i := 15) (o := { dst := some 48, op := Op.call { callee := Callee.value (Operand.func 92), args := #[Operand.tmp 33, Operand.tmp 37, Operand.tmp 47], argTypes := #[106, 3, 4] }, type := 4, pos := _, after := #[{ on := 0, ground := Ground.data }, { on := 4, ground := Ground.data }, { on := 14, ground := Ground.data }], guard := none }) (by kernel_rfl) rfl (fun K' hK => ?_)
          rw [if_pos (by rfl)]
          go_simp
          refine HP.out.mono ?_
          rintro e v4 ⟨rfl, q2, t2⟩
          refine hK.out _ _ trivial ?_
          clear hK
          try simp only [Go.Act.put, List.setIfInBounds_toArray, List.set_cons_zero, List.set_cons_succ]
          refine wpAnyH_done (by kernel_rfl) ?_ _
          go_wp2_with fail
          go_end0
          exact ⟨rfl, by rw [HE.out]; exact q2, TZ.out.trans' t2⟩
        refine AllH.cons (o := { dst := some 45, op := Op.load 9 (Operand.tmp 44), type := 9, pos := _, after := #[{ on := 11, ground := Ground.data }], guard := none }) rfl (fun K' hK => ?_) ?_
        · rw [if_pos (by rfl)]
          have z5 := C0
          go_simp
          clear z5
          refine hK.out _ _ trivial ?_
          clear hK
          try simp only [Go.Act.put, List.setIfInBounds_toArray, List.set_cons_zero, List.set_cons_succ]
          refine wpH_take (i := 13) (v := (.int .i64 (s.size : Int))) (some 46) rfl rfl (by kernel_rfl) (by kernel_rfl) (by kernel_rfl) (fun _ _ _ h => h) (Or.inl ⟨by rfl, fun w' hS => (by go_simp)⟩) trivial ?_
          try simp only [Go.Act.put, List.setIfInBounds_toArray, List.set_cons_zero, List.set_cons_succ]
          refine wpH_call (i := 8) (o := { dst := some 41, op := Op.load 3 (Operand.tmp 40), type := 3, pos := _, after := #[{ on := 7, ground := Ground.data }], guard := none }) (by kernel_rfl) rfl (fun K' hK => ?_)
          rw [if_pos (by rfl)]
          have z6 := C1
          go_simp
          clear z6
          refine hK.out _ _ trivial ?_
          clear hK
          try simp only [Go.Act.put, List.setIfInBounds_toArray, List.set_cons_zero, List.set_cons_succ]
          refine wpH_take (i := 14) (v := (.bool D)) (some 47) rfl rfl (by kernel_rfl) (by kernel_rfl) (by kernel_rfl) (fun _ _ _ h => h) (Or.inl ⟨by rfl, fun w' hS => (by go_simp)⟩) trivial ?_
          try simp only [Go.Act.put, List.setIfInBounds_toArray, List.set_cons_zero, List.set_cons_succ]
          refine wpH_call (i := 15) (o := { dst := some 48, op := Op.call { callee := Callee.value (Operand.func 92), args := #[Operand.tmp 33, Operand.tmp 37, Operand.tmp 47], argTypes := #[106, 3, 4] }, type := 4, pos := _, after := #[{ on := 0, ground := Ground.data }, { on := 4, ground := Ground.data }, { on := 14, ground := Ground.data }], guard := none }) (by kernel_rfl) rfl (fun K' hK => ?_)
          rw [if_pos (by rfl)]
          go_simp
          refine HP.out.mono ?_
          rintro e v7 ⟨rfl, q2, t2⟩
          refine hK.out _ _ trivial ?_
          clear hK
          try simp only [Go.Act.put, List.setIfInBounds_toArray, List.set_cons_zero, List.set_cons_succ]
          refine wpAnyH_done (by kernel_rfl) ?_ _
          go_wp2_with fail
          go_end0
          exact ⟨rfl, by rw [HE.out]; exact q2, TZ.out.trans' t2⟩
        exact AllH.nil
      refine AllH.cons (o := { dst := some 41, op := Op.load 3 (Operand.tmp 40), type := 3, pos := _, after := #[{ on := 7, ground := Ground.data }], guard := none }) rfl (fun K' hK => ?_) ?_
      · rw [if_pos (by rfl)]
        have z8 := C1
        go_simp
        clear z8
        refine hK.out _ _ trivial ?_
        clear hK
        try simp only [Go.Act.put, List.setIfInBounds_toArray, List.set_cons_zero, List.set_cons_succ]
        refine wpH_ready (rs := [4, 12]) (by kernel_rfl) (by simp) ?_
        refine AllH.cons (o := { dst := some 37, op := Op.load 3 (Operand.tmp 36), type := 3, pos := _, after := #[{ on := 3, ground := Ground.data }], guard := none }) rfl (fun K' hK => ?_) ?_
        · rw [if_pos (by rfl)]
          have z9 := C1
          go_simp
          clear z9
          refine hK.out _ _ trivial ?_
          clear hK
          try simp only [Go.Act.put, List.setIfInBounds_toArray, List.set_cons_zero, List.set_cons_succ]
          refine wpH_call (i := 12) (o := { dst := some 45, op := Op.load 9 (Operand.tmp 44), type := 9, pos := _, after := #[{ on := 11, ground := Ground.data }], guard := none }) (by kernel_rfl) rfl (fun K' hK => ?_)
          rw [if_pos (by rfl)]
          have z10 := C0
          go_simp
          clear z10
          refine hK.out _ _ trivial ?_
          clear hK
          try simp only [Go.Act.put, List.setIfInBounds_toArray, List.set_cons_zero, List.set_cons_succ]
          refine wpH_take (i := 13) (v := (.int .i64 (s.size : Int))) (some 46) rfl rfl (by kernel_rfl) (by kernel_rfl) (by kernel_rfl) (fun _ _ _ h => h) (Or.inl ⟨by rfl, fun w' hS => (by go_simp)⟩) trivial ?_
          try simp only [Go.Act.put, List.setIfInBounds_toArray, List.set_cons_zero, List.set_cons_succ]
          refine wpH_take (i := 14) (v := (.bool D)) (some 47) rfl rfl (by kernel_rfl) (by kernel_rfl) (by kernel_rfl) (fun _ _ _ h => h) (Or.inl ⟨by rfl, fun w' hS => (by go_simp)⟩) trivial ?_
          try simp only [Go.Act.put, List.setIfInBounds_toArray, List.set_cons_zero, List.set_cons_succ]
          refine wpH_call (i := 15) (o := { dst := some 48, op := Op.call { callee := Callee.value (Operand.func 92), args := #[Operand.tmp 33, Operand.tmp 37, Operand.tmp 47], argTypes := #[106, 3, 4] }, type := 4, pos := _, after := #[{ on := 0, ground := Ground.data }, { on := 4, ground := Ground.data }, { on := 14, ground := Ground.data }], guard := none }) (by kernel_rfl) rfl (fun K' hK => ?_)
          rw [if_pos (by rfl)]
          go_simp
          refine HP.out.mono ?_
          rintro e v11 ⟨rfl, q2, t2⟩
          refine hK.out _ _ trivial ?_
          clear hK
          try simp only [Go.Act.put, List.setIfInBounds_toArray, List.set_cons_zero, List.set_cons_succ]
          refine wpAnyH_done (by kernel_rfl) ?_ _
          go_wp2_with fail
          go_end0
          exact ⟨rfl, by rw [HE.out]; exact q2, TZ.out.trans' t2⟩
        refine AllH.cons (o := { dst := some 45, op := Op.load 9 (Operand.tmp 44), type := 9, pos := _, after := #[{ on := 11, ground := Ground.data }], guard := none }) rfl (fun K' hK => ?_) ?_
        · rw [if_pos (by rfl)]
          have z12 := C0
          go_simp
          clear z12
          refine hK.out _ _ trivial ?_
          clear hK
          try simp only [Go.Act.put, List.setIfInBounds_toArray, List.set_cons_zero, List.set_cons_succ]
          refine wpH_take (i := 13) (v := (.int .i64 (s.size : Int))) (some 46) rfl rfl (by kernel_rfl) (by kernel_rfl) (by kernel_rfl) (fun _ _ _ h => h) (Or.inl ⟨by rfl, fun w' hS => (by go_simp)⟩) trivial ?_
          try simp only [Go.Act.put, List.setIfInBounds_toArray, List.set_cons_zero, List.set_cons_succ]
          refine wpH_take (i := 14) (v := (.bool D)) (some 47) rfl rfl (by kernel_rfl) (by kernel_rfl) (by kernel_rfl) (fun _ _ _ h => h) (Or.inl ⟨by rfl, fun w' hS => (by go_simp)⟩) trivial ?_
          try simp only [Go.Act.put, List.setIfInBounds_toArray, List.set_cons_zero, List.set_cons_succ]
          refine wpH_call (i := 4) (o := { dst := some 37, op := Op.load 3 (Operand.tmp 36), type := 3, pos := _, after := #[{ on := 3, ground := Ground.data }], guard := none }) (by kernel_rfl) rfl (fun K' hK => ?_)
          rw [if_pos (by rfl)]
          have z13 := C1
          go_simp
          clear z13
          refine hK.out _ _ trivial ?_
          clear hK
          try simp only [Go.Act.put, List.setIfInBounds_toArray, List.set_cons_zero, List.set_cons_succ]
          refine wpH_call (i := 15) (o := { dst := some 48, op := Op.call { callee := Callee.value (Operand.func 92), args := #[Operand.tmp 33, Operand.tmp 37, Operand.tmp 47], argTypes := #[106, 3, 4] }, type := 4, pos := _, after := #[{ on := 0, ground := Ground.data }, { on := 4, ground := Ground.data }, { on := 14, ground := Ground.data }], guard := none }) (by kernel_rfl) rfl (fun K' hK => ?_)
          rw [if_pos (by rfl)]
          go_simp
          refine HP.out.mono ?_
          rintro e v14 ⟨rfl, q2, t2⟩
          refine hK.out _ _ trivial ?_
          clear hK
          try simp only [Go.Act.put, List.setIfInBounds_toArray, List.set_cons_zero, List.set_cons_succ]
          refine wpAnyH_done (by kernel_rfl) ?_ _
          go_wp2_with fail
          go_end0
          exact ⟨rfl, by rw [HE.out]; exact q2, TZ.out.trans' t2⟩
        exact AllH.nil
      refine AllH.cons (o := { dst := some 45, op := Op.load 9 (Operand.tmp 44), type := 9, pos := _, after := #[{ on := 11, ground := Ground.data }], guard := none }) rfl (fun K' hK => ?_) ?_
      · rw [if_pos (by rfl)]
        have z15 := C0
        go_simp
        clear z15
        refine hK.out _ _ trivial ?_
        clear hK
        try simp only [Go.Act.put, List.setIfInBounds_toArray, List.set_cons_zero, List.set_cons_succ]
        refine wpH_take (i := 13) (v := (.int .i64 (s.size : Int))) (some 46) rfl rfl (by kernel_rfl) (by kernel_rfl) (by kernel_rfl) (fun _ _ _ h => h) (Or.inl ⟨by rfl, fun w' hS => (by go_simp)⟩) trivial ?_
        try simp only [Go.Act.put, List.setIfInBounds_toArray, List.set_cons_zero, List.set_cons_succ]
        refine wpH_ready (rs := [4, 8]) (by kernel_rfl) (by simp) ?_
        refine AllH.cons (o := { dst := some 37, op := Op.load 3 (Operand.tmp 36), type := 3, pos := _, after := #[{ on := 3, ground := Ground.data }], guard := none }) rfl (fun K' hK => ?_) ?_
        · rw [if_pos (by rfl)]
          have z16 := C1
          go_simp
          clear z16
          refine hK.out _ _ trivial ?_
          clear hK
          try simp only [Go.Act.put, List.setIfInBounds_toArray, List.set_cons_zero, List.set_cons_succ]
          refine wpH_call (i := 8) (o := { dst := some 41, op := Op.load 3 (Operand.tmp 40), type := 3, pos := _, after := #[{ on := 7, ground := Ground.data }], guard := none }) (by kernel_rfl) rfl (fun K' hK => ?_)
          rw [if_pos (by rfl)]
          have z17 := C1
          go_simp
          clear z17
          refine hK.out _ _ trivial ?_
          clear hK
          try simp only [Go.Act.put, List.setIfInBounds_toArray, List.set_cons_zero, List.set_cons_succ]
          refine wpH_take (i := 14) (v := (.bool D)) (some 47) rfl rfl (by kernel_rfl) (by kernel_rfl) (by kernel_rfl) (fun _ _ _ h => h) (Or.inl ⟨by rfl, fun w' hS => (by go_simp)⟩) trivial ?_
          try simp only [Go.Act.put, List.setIfInBounds_toArray, List.set_cons_zero, List.set_cons_succ]
          refine wpH_call (i := 15) (o := { dst := some 48, op := Op.call { callee := Callee.value (Operand.func 92), args := #[Operand.tmp 33, Operand.tmp 37, Operand.tmp 47], argTypes := #[106, 3, 4] }, type := 4, pos := _, after := #[{ on := 0, ground := Ground.data }, { on := 4, ground := Ground.data }, { on := 14, ground := Ground.data }], guard := none }) (by kernel_rfl) rfl (fun K' hK => ?_)
          rw [if_pos (by rfl)]
          go_simp
          refine HP.out.mono ?_
          rintro e v18 ⟨rfl, q2, t2⟩
          refine hK.out _ _ trivial ?_
          clear hK
          try simp only [Go.Act.put, List.setIfInBounds_toArray, List.set_cons_zero, List.set_cons_succ]
          refine wpAnyH_done (by kernel_rfl) ?_ _
          go_wp2_with fail
          go_end0
          exact ⟨rfl, by rw [HE.out]; exact q2, TZ.out.trans' t2⟩
        refine AllH.cons (o := { dst := some 41, op := Op.load 3 (Operand.tmp 40), type := 3, pos := _, after := #[{ on := 7, ground := Ground.data }], guard := none }) rfl (fun K' hK => ?_) ?_
        · rw [if_pos (by rfl)]
          have z19 := C1
          go_simp
          clear z19
          refine hK.out _ _ trivial ?_
          clear hK
          try simp only [Go.Act.put, List.setIfInBounds_toArray, List.set_cons_zero, List.set_cons_succ]
          refine wpH_take (i := 14) (v := (.bool D)) (some 47) rfl rfl (by kernel_rfl) (by kernel_rfl) (by kernel_rfl) (fun _ _ _ h => h) (Or.inl ⟨by rfl, fun w' hS => (by go_simp)⟩) trivial ?_
          try simp only [Go.Act.put, List.setIfInBounds_toArray, List.set_cons_zero, List.set_cons_succ]
          refine wpH_call (i := 4) (o := { dst := some 37, op := Op.load 3 (Operand.tmp 36), type := 3, pos := _, after := #[{ on := 3, ground := Ground.data }], guard := none }) (by kernel_rfl) rfl (fun K' hK => ?_)
          rw [if_pos (by rfl)]
          have z20 := C1
          go_simp
          clear z20
          refine hK.out _ _ trivial ?_
          clear hK
          try simp only [Go.Act.put, List.setIfInBounds_toArray, List.set_cons_zero, List.set_cons_succ]
          refine wpH_call (i := 15) (o := { dst := some 48, op := Op.call { callee := Callee.value (Operand.func 92), args := #[Operand.tmp 33, Operand.tmp 37, Operand.tmp 47], argTypes := #[106, 3, 4] }, type := 4, pos := _, after := #[{ on := 0, ground := Ground.data }, { on := 4, ground := Ground.data }, { on := 14, ground := Ground.data }], guard := none }) (by kernel_rfl) rfl (fun K' hK => ?_)
          rw [if_pos (by rfl)]
          go_simp
          refine HP.out.mono ?_
          rintro e v21 ⟨rfl, q2, t2⟩
          refine hK.out _ _ trivial ?_
          clear hK
          try simp only [Go.Act.put, List.setIfInBounds_toArray, List.set_cons_zero, List.set_cons_succ]
          refine wpAnyH_done (by kernel_rfl) ?_ _
          go_wp2_with fail
          go_end0
          exact ⟨rfl, by rw [HE.out]; exact q2, TZ.out.trans' t2⟩
        exact AllH.nil
      exact AllH.nil
    · have hb : ((v : Int) != (u : Int)) = true := by simp; omega
      have HM' : MM = ⟨(k : Int), 201⟩ := by rw [HM.out, if_pos ⟨he, hv⟩]
      go_upto_region 4 with (go_at_call 79; refine (HU.out _).mono ?_; rintro e w2 ⟨rfl, h2⟩; subst h2)
      clear hv hb d0 d1 d2 f1 f2
      obtain ⟨Z, eZ⟩ : ∃ Z : Rd, Z = (⟨(k : Int), 201⟩ : Rd) := ⟨_, rfl⟩
      have qZ : Rq ((w2.setCell ⟨r, 1, none⟩ (.int .i64 (k : Int))).setCell ⟨r, 2, none⟩ (.int .i64 201)).drew r s Z := by rw [eZ]; exact bset (i := 2) (bset (i := 1) q1 (.int .i64 (k : Int))) (.int .i64 201)
      have TZ : Hid (Touch [r] w ((w2.setCell ⟨r, 1, none⟩ (.int .i64 (k : Int))).setCell ⟨r, 2, none⟩ (.int .i64 201)).drew) := hid ((t1.setCell (Or.inl (by simp)) _).setCell (Or.inl (by simp)) _).drew
      have HE := hid (HZ.out Z (by rw [eZ]; exact HM'.symm))
      obtain ⟨C0, C1, _⟩ := HQ.out _ Z qZ
      have HP := hid (pass_ qZ Z.at_ (decide (Z.at_ = (s.size : Int))))
      have hD : (Z.at_ == (s.size : Int)) = decide (Z.at_ = (s.size : Int)) := by rw [Bool.eq_iff_iff]; simp
      skip
      generalize passB Z (decide (Z.at_ = (s.size : Int))) = B' at *
      generalize passS Z Z.at_ (decide (Z.at_ = (s.size : Int))) = P' at *
      generalize decide (Z.at_ = (s.size : Int)) = D at *
      refine wp_region_H (S := fun _ => True) (by kernel_rfl) ?_
      unfold PT at HP
      generalize ((w2.setCell ⟨r, 1, none⟩ (.int .i64 (k : Int))).setCell ⟨r, 2, none⟩ (.int .i64 201)).drew = Wd at *
      clear HQ HU sl HZ HM eZ
      refine wpH_take (i := 0) (v := (.pointer (some ⟨r, 0, none⟩))) (some 33) rfl rfl (by kernel_rfl) (by kernel_rfl) (by kernel_rfl) (fun _ _ _ h => h) (Or.inl ⟨by rfl, fun w' hS => (by go_simp)⟩) trivial ?_
      try simp only [Go.Act.put, List.setIfInBounds_toArray, List.set_cons_zero, List.set_cons_succ]
      refine wpH_take (i := 1) (v := (.pointer (some ⟨r, 0, none⟩))) (some 34) rfl rfl (by kernel_rfl) (by kernel_rfl) (by kernel_rfl) (fun _ _ _ h => h) (Or.inl ⟨by rfl, fun w' hS => (by go_simp)⟩) trivial ?_
      try simp only [Go.Act.put, List.setIfInBounds_toArray, List.set_cons_zero, List.set_cons_succ]
      refine wpH_take (i := 2) (v := (.pointer (some ⟨r, 0, none⟩))) (some 35) rfl rfl (by kernel_rfl) (by kernel_rfl) (by kernel_rfl) (fun _ _ _ h => h) (Or.inl ⟨by rfl, fun w' hS => (by go_simp)⟩) trivial ?_
      try simp only [Go.Act.put, List.setIfInBounds_toArray, List.set_cons_zero, List.set_cons_succ]
      refine wpH_take (i := 3) (v := (.pointer (some ⟨r, 1, none⟩))) (some 36) rfl rfl (by kernel_rfl) (by kernel_rfl) (by kernel_rfl) (fun _ _ _ h => h) (Or.inl ⟨by rfl, fun w' hS => (by go_simp)⟩) trivial ?_
      try simp only [Go.Act.put, List.setIfInBounds_toArray, List.set_cons_zero, List.set_cons_succ]
      refine wpH_take (i := 5) (v := (.pointer (some ⟨r, 0, none⟩))) (some 38) rfl rfl (by kernel_rfl) (by kernel_rfl) (by kernel_rfl) (fun _ _ _ h => h) (Or.inl ⟨by rfl, fun w' hS => (by go_simp)⟩) trivial ?_
      try simp only [Go.Act.put, List.setIfInBounds_toArray, List.set_cons_zero, List.set_cons_succ]
      refine wpH_take (i := 6) (v := (.pointer (some ⟨r, 0, none⟩))) (some 39) rfl rfl (by kernel_rfl) (by kernel_rfl) (by kernel_rfl) (fun _ _ _ h => h) (Or.inl ⟨by rfl, fun w' hS => (by go_simp)⟩) trivial ?_
      try simp only [Go.Act.put, List.setIfInBounds_toArray, List.set_cons_zero, List.set_cons_succ]
      refine wpH_take (i := 7) (v := (.pointer (some ⟨r, 1, none⟩))) (some 40) rfl rfl (by kernel_rfl) (by kernel_rfl) (by kernel_rfl) (fun _ _ _ h => h) (Or.inl ⟨by rfl, fun w' hS => (by go_simp)⟩) trivial ?_
      try simp only [Go.Act.put, List.setIfInBounds_toArray, List.set_cons_zero, List.set_cons_succ]
      refine wpH_take (i := 9) (v := (.pointer (some ⟨r, 0, none⟩))) (some 42) rfl rfl (by kernel_rfl) (by kernel_rfl) (by kernel_rfl) (fun _ _ _ h => h) (Or.inl ⟨by rfl, fun w' hS => (by go_simp)⟩) trivial ?_
      try simp only [Go.Act.put, List.setIfInBounds_toArray, List.set_cons_zero, List.set_cons_succ]
      refine wpH_take (i := 10) (v := (.pointer (some ⟨r, 0, none⟩))) (some 43) rfl rfl (by kernel_rfl) (by kernel_rfl) (by kernel_rfl) (fun _ _ _ h => h) (Or.inl ⟨by rfl, fun w' hS => (by go_simp)⟩) trivial ?_
      try simp only [Go.Act.put, List.setIfInBounds_toArray, List.set_cons_zero, List.set_cons_succ]
      refine wpH_take (i := 11) (v := (.pointer (some ⟨r, 0, none⟩))) (some 44) rfl rfl (by kernel_rfl) (by kernel_rfl) (by kernel_rfl) (fun _ _ _ h => h) (Or.inl ⟨by rfl, fun w' hS => (by go_simp)⟩) trivial ?_
      try simp only [Go.Act.put, List.setIfInBounds_toArray, List.set_cons_zero, List.set_cons_succ]
      refine wpH_ready (rs := [4, 8, 12]) (by kernel_rfl) (by simp) ?_
      refine AllH.cons (o := { dst := some 37, op := Op.load 3 (Operand.tmp 36), type := 3, pos := _, after := #[{ on := 3, ground := Ground.data }], guard := none }) rfl (fun K' hK => ?_) ?_
      · rw [if_pos (by rfl)]
        have z1 := C1
        go_simp
        clear z1
        refine hK.out _ _ trivial ?_
        clear hK
        try simp only [Go.Act.put, List.setIfInBounds_toArray, List.set_cons_zero, List.set_cons_succ]
        refine wpH_ready (rs := [8, 12]) (by kernel_rfl) (by simp) ?_
        refine AllH.cons (o := { dst := some 41, op := Op.load 3 (Operand.tmp 40), type := 3, pos := _, after := #[{ on := 7, ground := Ground.data }], guard := none }) rfl (fun K' hK => ?_) ?_
        · rw [if_pos (by rfl)]
          have z2 := C1
          go_simp
          clear z2
          refine hK.out _ _ trivial ?_
          clear hK
          try simp only [Go.Act.put, List.setIfInBounds_toArray, List.set_cons_zero, List.set_cons_succ]
          refine wpH_call (i := 12) (o := { dst := some 45, op := Op.load 9 (Operand.tmp 44), type := 9, pos := _, after := #[{ on := 11, ground := Ground.data }], guard := none }) (by kernel_rfl) rfl (fun K' hK => ?_)
          rw [if_pos (by rfl)]
          have z3 := C0
          go_simp
          clear z3
          refine hK.out _ _ trivial ?_
          clear hK
          try simp only [Go.Act.put, List.setIfInBounds_toArray, List.set_cons_zero, List.set_cons_succ]
          refine wpH_take (i := 13) (v := (.int .i64 (s.size : Int))) (some 46) rfl rfl (by kernel_rfl) (by kernel_rfl) (by kernel_rfl) (fun _ _ _ h => h) (Or.inl ⟨by rfl, fun w' hS => (by go_simp)⟩) trivial ?_
          try simp only [Go.Act.put, List.setIfInBounds_toArray, List.set_cons_zero, List.set_cons_succ]
          refine wpH_take (i := 14) (v := (.bool D)) (some 47) rfl rfl (by kernel_rfl) (by kernel_rfl) (by kernel_rfl) (fun _ _ _ h => h) (Or.inl ⟨by rfl, fun w' hS => (by go_simp)⟩) trivial ?_
          try simp only [Go.Act.put, List.setIfInBounds_toArray, List.set_cons_zero, List.set_cons_succ]
          refine wpH_call (i := 15) (o := { dst := some 48, op := Op.call { callee := Callee.value (Operand.func 92), args := #[Operand.tmp 33, Operand.tmp 37, Operand.tmp 47], argTypes := #[106, 3, 4] }, type := 4, pos := _, after := #[{ on := 0, ground := Ground.data }, { on := 4, ground := Ground.data }, { on := 14, ground := Ground.data }], guard := none }) (by kernel_rfl) rfl (fun K' hK => ?_)
          rw [if_pos (by rfl)]
          go_simp
          refine HP.out.mono ?_
          rintro e v4 ⟨rfl, q2, t2⟩
          refine hK.out _ _ trivial ?_
          clear hK
          try simp only [Go.Act.put, List.setIfInBounds_toArray, List.set_cons_zero, List.set_cons_succ]
          refine wpAnyH_done (by kernel_rfl) ?_ _
          go_wp2_with fail
          go_end0
          exact ⟨rfl, by rw [HE.out]; exact q2, TZ.out.trans' t2⟩
        refine AllH.cons (o := { dst := some 45, op := Op.load 9 (Operand.tmp 44), type := 9, pos := _, after := #[{ on := 11, ground := Ground.data }], guard := none }) rfl (fun K' hK => ?_) ?_
        · rw [if_pos (by rfl)]
          have z5 := C0
          go_simp
          clear z5
          refine hK.out _ _ trivial ?_
          clear hK
          try simp only [Go.Act.put, List.setIfInBounds_toArray, List.set_cons_zero, List.set_cons_succ]
          refine wpH_take (i := 13) (v := (.int .i64 (s.size : Int))) (some 46) rfl rfl (by kernel_rfl) (by kernel_rfl) (by kernel_rfl) (fun _ _ _ h => h) (Or.inl ⟨by rfl, fun w' hS => (by go_simp)⟩) trivial ?_
          try simp only [Go.Act.put, List.setIfInBounds_toArray, List.set_cons_zero, List.set_cons_succ]
          refine wpH_call (i := 8) (o := { dst := some 41, op := Op.load 3 (Operand.tmp 40), type := 3, pos := _, after := #[{ on := 7, ground := Ground.data }], guard := none }) (by kernel_rfl) rfl (fun K' hK => ?_)
          rw [if_pos (by rfl)]
          have z6 := C1
          go_simp
          clear z6
          refine hK.out _ _ trivial ?_
          clear hK
          try simp only [Go.Act.put, List.setIfInBounds_toArray, List.set_cons_zero, List.set_cons_succ]
          refine wpH_take (i := 14) (v := (.bool D)) (some 47) rfl rfl (by kernel_rfl) (by kernel_rfl) (by kernel_rfl) (fun _ _ _ h => h) (Or.inl ⟨by rfl, fun w' hS => (by go_simp)⟩) trivial ?_
          try simp only [Go.Act.put, List.setIfInBounds_toArray, List.set_cons_zero, List.set_cons_succ]
          refine wpH_call (i := 15) (o := { dst := some 48, op := Op.call { callee := Callee.value (Operand.func 92), args := #[Operand.tmp 33, Operand.tmp 37, Operand.tmp 47], argTypes := #[106, 3, 4] }, type := 4, pos := _, after := #[{ on := 0, ground := Ground.data }, { on := 4, ground := Ground.data }, { on := 14, ground := Ground.data }], guard := none }) (by kernel_rfl) rfl (fun K' hK => ?_)
          rw [if_pos (by rfl)]
          go_simp
          refine HP.out.mono ?_
          rintro e v7 ⟨rfl, q2, t2⟩
          refine hK.out _ _ trivial ?_
          clear hK
          try simp only [Go.Act.put, List.setIfInBounds_toArray, List.set_cons_zero, List.set_cons_succ]
          refine wpAnyH_done (by kernel_rfl) ?_ _
          go_wp2_with fail
          go_end0
          exact ⟨rfl, by rw [HE.out]; exact q2, TZ.out.trans' t2⟩
        exact AllH.nil
      refine AllH.cons (o := { dst := some 41, op := Op.load 3 (Operand.tmp 40), type := 3, pos := _, after := #[{ on := 7, ground := Ground.data }], guard := none }) rfl (fun K' hK => ?_) ?_
      · rw [if_pos (by rfl)]
        have z8 := C1
        go_simp
        clear z8
        refine hK.out _ _ trivial ?_
        clear hK
        try simp only [Go.Act.put, List.setIfInBounds_toArray, List.set_cons_zero, List.set_cons_succ]
        refine wpH_ready (rs := [4, 12]) (by kernel_rfl) (by simp) ?_
        refine AllH.cons (o := { dst := some 37, op := Op.load 3 (Operand.tmp 36), type := 3, pos := _, after := #[{ on := 3, ground := Ground.data }], guard := none }) rfl (fun K' hK => ?_) ?_
        · rw [if_pos (by rfl)]
          have z9 := C1
          go_simp
          clear z9
          refine hK.out _ _ trivial ?_
          clear hK
          try simp only [Go.Act.put, List.setIfInBounds_toArray, List.set_cons_zero, List.set_cons_succ]
          refine wpH_call (i := 12) (o := { dst := some 45, op := Op.load 9 (Operand.tmp 44), type := 9, pos := _, after := #[{ on := 11, ground := Ground.data }], guard := none }) (by kernel_rfl) rfl (fun K' hK => ?_)
          rw [if_pos (by rfl)]
          have z10 := C0
          go_simp
          clear z10
          refine hK.out _ _ trivial ?_
          clear hK
          try simp only [Go.Act.put, List.setIfInBounds_toArray, List.set_cons_zero, List.set_cons_succ]
          refine wpH_take (i := 13) (v := (.int .i64 (s.size : Int))) (some 46) rfl rfl (by kernel_rfl) (by kernel_rfl) (by kernel_rfl) (fun _ _ _ h => h) (Or.inl ⟨by rfl, fun w' hS => (by go_simp)⟩) trivial ?_
          try simp only [Go.Act.put, List.setIfInBounds_toArray, List.set_cons_zero, List.set_cons_succ]
          refine wpH_take (i := 14) (v := (.bool D)) (some 47) rfl rfl (by kernel_rfl) (by kernel_rfl) (by kernel_rfl) (fun _ _ _ h => h) (Or.inl ⟨by rfl, fun w' hS => (by go_simp)⟩) trivial ?_
          try simp only [Go.Act.put, List.setIfInBounds_toArray, List.set_cons_zero, List.set_cons_succ]
          refine wpH_call (i := 15) (o := { dst := some 48, op := Op.call { callee := Callee.value (Operand.func 92), args := #[Operand.tmp 33, Operand.tmp 37, Operand.tmp 47], argTypes := #[106, 3, 4] }, type := 4, pos := _, after := #[{ on := 0, ground := Ground.data }, { on := 4, ground := Ground.data }, { on := 14, ground := Ground.data }], guard := none }) (by kernel_rfl) rfl (fun K' hK => ?_)
          rw [if_pos (by rfl)]
          go_simp
          refine HP.out.mono ?_
          rintro e v11 ⟨rfl, q2, t2⟩
          refine hK.out _ _ trivial ?_
          clear hK
          try simp only [Go.Act.put, List.setIfInBounds_toArray, List.set_cons_zero, List.set_cons_succ]
          refine wpAnyH_done (by kernel_rfl) ?_ _
          go_wp2_with fail
          go_end0
          exact ⟨rfl, by rw [HE.out]; exact q2, TZ.out.trans' t2⟩
        refine AllH.cons (o := { dst := some 45, op := Op.load 9 (Operand.tmp 44), type := 9, pos := _, after := #[{ on := 11, ground := Ground.data }], guard := none }) rfl (fun K' hK => ?_) ?_
        · rw [if_pos (by rfl)]
          have z12 := C0
          go_simp
          clear z12
          refine hK.out _ _ trivial ?_
          clear hK
          try simp only [Go.Act.put, List.setIfInBounds_toArray, List.set_cons_zero, List.set_cons_succ]
          refine wpH_take (i := 13) (v := (.int .i64 (s.size : Int))) (some 46) rfl rfl (by kernel_rfl) (by kernel_rfl) (by kernel_rfl) (fun _ _ _ h => h) (Or.inl ⟨by rfl, fun w' hS => (by go_simp)⟩) trivial ?_
          try simp only [Go.Act.put, List.setIfInBounds_toArray, List.set_cons_zero, List.set_cons_succ]
          refine wpH_take (i := 14) (v := (.bool D)) (some 47) rfl rfl (by kernel_rfl) (by kernel_rfl) (by kernel_rfl) (fun _ _ _ h => h) (Or.inl ⟨by rfl, fun w' hS => (by go_simp)⟩) trivial ?_
          try simp only [Go.Act.put, List.setIfInBounds_toArray, List.set_cons_zero, List.set_cons_succ]
          refine wpH_call (i := 4) (o := { dst := some 37, op := Op.load 3 (Operand.tmp 36), type := 3, pos := _, after := #[{ on := 3, ground := Ground.data }], guard := none }) (by kernel_rfl) rfl (fun K' hK => ?_)
          rw [if_pos (by rfl)]
          have z13 := C1
          go_simp
          clear z13
          refine hK.out _ _ trivial ?_
          clear hK
          try simp only [Go.Act.put, List.setIfInBounds_toArray, List.set_cons_zero, List.set_cons_succ]
          refine wpH_call (i := 15) (o := { dst := some 48, op := Op.call { callee := Callee.value (Operand.func 92), args := #[Operand.tmp 33, Operand.tmp 37, Operand.tmp 47], argTypes := #[106, 3, 4] }, type := 4, pos := _, after := #[{ on := 0, ground := Ground.data }, { on := 4, ground := Ground.data }, { on := 14, ground := Ground.data }], guard := none }) (by kernel_rfl) rfl (fun K' hK => ?_)
          rw [if_pos (by rfl)]
          go_simp
          refine HP.out.mono ?_
          rintro e v14 ⟨rfl, q2, t2⟩
          refine hK.out _ _ trivial ?_
          clear hK
          try simp only [Go.Act.put, List.setIfInBounds_toArray, List.set_cons_zero, List.set_cons_succ]
          refine wpAnyH_done (by kernel_rfl) ?_ _
          go_wp2_with fail
          go_end0
          exact ⟨rfl, by rw [HE.out]; exact q2, TZ.out.trans' t2⟩
        exact AllH.nil
      refine AllH.cons (o := { dst := some 45, op := Op.load 9 (Operand.tmp 44), type := 9, pos := _, after := #[{ on := 11, ground := Ground.data }], guard := none }) rfl (fun K' hK => ?_) ?_
      · rw [if_pos (by rfl)]
        have z15 := C0
        go_simp
        clear z15
        refine hK.out _ _ trivial ?_
        clear hK
        try simp only [Go.Act.put, List.setIfInBounds_toArray, List.set_cons_zero, List.set_cons_succ]
        refine wpH_take (i := 13) (v := (.int .i64 (s.size : Int))) (some 46) rfl rfl (by kernel_rfl) (by kernel_rfl) (by kernel_rfl) (fun _ _ _ h => h) (Or.inl ⟨by rfl, fun w' hS => (by go_simp)⟩) trivial ?_
        try simp only [Go.Act.put, List.setIfInBounds_toArray, List.set_cons_zero, List.set_cons_succ]
        refine wpH_ready (rs := [4, 8]) (by kernel_rfl) (by simp) ?_
        refine AllH.cons (o := { dst := some 37, op := Op.load 3 (Operand.tmp 36), type := 3, pos := _, after := #[{ on := 3, ground := Ground.data }], guard := none }) rfl (fun K' hK => ?_) ?_
        · rw [if_pos (by rfl)]
          have z16 := C1
          go_simp
          clear z16
          refine hK.out _ _ trivial ?_
          clear hK
          try simp only [Go.Act.put, List.setIfInBounds_toArray, List.set_cons_zero, List.set_cons_succ]
          refine wpH_call (i := 8) (o := { dst := some 41, op := Op.load 3 (Operand.tmp 40), type := 3, pos := _, after := #[{ on := 7, ground := Ground.data }], guard := none }) (by kernel_rfl) rfl (fun K' hK => ?_)
          rw [if_pos (by rfl)]
          have z17 := C1
          go_simp
          clear z17
          refine hK.out _ _ trivial ?_
          clear hK
          try simp only [Go.Act.put, List.setIfInBounds_toArray, List.set_cons_zero, List.set_cons_succ]
          refine wpH_take (i := 14) (v := (.bool D)) (some 47) rfl rfl (by kernel_rfl) (by kernel_rfl) (by kernel_rfl) (fun _ _ _ h => h) (Or.inl ⟨by rfl, fun w' hS => (by go_simp)⟩) trivial ?_
          try simp only [Go.Act.put, List.setIfInBounds_toArray, List.set_cons_zero, List.set_cons_succ]
          refine wpH_call (i := 15) (o := { dst := some 48, op := Op.call { callee := Callee.value (Operand.func 92), args := #[Operand.tmp 33, Operand.tmp 37, Operand.tmp 47], argTypes := #[106, 3, 4] }, type := 4, pos := _, after := #[{ on := 0, ground := Ground.data }, { on := 4, ground := Ground.data }, { on := 14, ground := Ground.data }], guard := none }) (by kernel_rfl) rfl (fun K' hK => ?_)
          rw [if_pos (by rfl)]
          go_simp
          refine HP.out.mono ?_
          rintro e v18 ⟨rfl, q2, t2⟩
          refine hK.out _ _ trivial ?_
          clear hK
          try simp only [Go.Act.put, List.setIfInBounds_toArray, List.set_cons_zero, List.set_cons_succ]
          refine wpAnyH_done (by kernel_rfl) ?_ _
          go_wp2_with fail
          go_end0
          exact ⟨rfl, by rw [HE.out]; exact q2, TZ.out.trans' t2⟩
        refine AllH.cons (o := { dst := some 41, op := Op.load 3 (Operand.tmp 40), type := 3, pos := _, after := #[{ on := 7, ground := Ground.data }], guard := none }) rfl (fun K' hK => ?_) ?_
        · rw [if_pos (by rfl)]
          have z19 := C1
          go_simp
          clear z19
          refine hK.out _ _ trivial ?_
          clear hK
          try simp only [Go.Act.put, List.setIfInBounds_toArray, List.set_cons_zero, List.set_cons_succ]
          refine wpH_take (i := 14) (v := (.bool D)) (some 47) rfl rfl (by kernel_rfl) (by kernel_rfl) (by kernel_rfl) (fun _ _ _ h => h) (Or.inl ⟨by rfl, fun w' hS => (by go_simp)⟩) trivial ?_
          try simp only [Go.Act.put, List.setIfInBounds_toArray, List.set_cons_zero, List.set_cons_succ]
          refine wpH_call (i := 4) (o := { dst := some 37, op := Op.load 3 (Operand.tmp 36), type := 3, pos := _, after := #[{ on := 3, ground := Ground.data }], guard := none }) (by kernel_rfl) rfl (fun K' hK => ?_)
          rw [if_pos (by rfl)]
          have z20 := C1
          go_simp
          clear z20
          refine hK.out _ _ trivial ?_
          clear hK
          try simp only [Go.Act.put, List.setIfInBounds_toArray, List.set_cons_zero, List.set_cons_succ]
          refine wpH_call (i := 15) (o := { dst := some 48, op := Op.call { callee := Callee.value (Operand.func 92), args := #[Operand.tmp 33, Operand.tmp 37, Operand.tmp 47], argTypes := #[106, 3, 4] }, type := 4, pos := _, after := #[{ on := 0, ground := Ground.data }, { on := 4, ground := Ground.data }, { on := 14, ground := Ground.data }], guard := none }) (by kernel_rfl) rfl (fun K' hK => ?_)
          rw [if_pos (by rfl)]
          go_simp
          refine HP.out.mono ?_
          rintro e v21 ⟨rfl, q2, t2⟩
          refine hK.out _ _ trivial ?_
          clear hK
          try simp only [Go.Act.put, List.setIfInBounds_toArray, List.set_cons_zero, List.set_cons_succ]
          refine wpAnyH_done (by kernel_rfl) ?_ _
          go_wp2_with fail
          go_end0
          exact ⟨rfl, by rw [HE.out]; exact q2, TZ.out.trans' t2⟩
        exact AllH.nil
      exact AllH.nil
  · have hb : (y.er == 0) = false := by simpa using he
    have HM' : MM = y := by rw [HM.out, if_neg (fun q => he q.1)]
    go_upto_region 4 with fail
    clear hb d0 d1 d2 f1 f2
    obtain ⟨Z, eZ⟩ : ∃ Z : Rd, Z = y := ⟨_, rfl⟩
    have qZ : Rq (w1).drew r s Z := by rw [eZ]; exact q1
    have TZ : Hid (Touch [r] w (w1).drew) := hid (t1).drew
    have HE := hid (HZ.out Z (by rw [eZ]; exact HM'.symm))
    obtain ⟨C0, C1, _⟩ := HQ.out _ Z qZ
    have HP := hid (pass_ qZ Z.at_ (decide (Z.at_ = (s.size : Int))))
    have hD : (Z.at_ == (s.size : Int)) = decide (Z.at_ = (s.size : Int)) := by rw [Bool.eq_iff_iff]; simp
    skip
    generalize passB Z (decide (Z.at_ = (s.size : Int))) = B' at *
    generalize passS Z Z.at_ (decide (Z.at_ = (s.size : Int))) = P' at *
    generalize decide (Z.at_ = (s.size : Int)) = D at *
    refine wp_region_H (S := fun _ => True) (by kernel_rfl) ?_
    unfold PT at HP
    generalize (w1).drew = Wd at *
    clear HQ HU sl HZ HM eZ
    refine wpH_take (i := 0) (v := (.pointer (some ⟨r, 0, none⟩))) (some 33) rfl rfl (by kernel_rfl) (by kernel_rfl) (by kernel_rfl) (fun _ _ _ h => h) (Or.inl ⟨by rfl, fun w' hS => (by go_simp)⟩) trivial ?_
    try simp only [Go.Act.put, List.setIfInBounds_toArray, List.set_cons_zero, List.set_cons_succ]
    refine wpH_take (i := 1) (v := (.pointer (some ⟨r, 0, none⟩))) (some 34) rfl rfl (by kernel_rfl) (by kernel_rfl) (by kernel_rfl) (fun _ _ _ h => h) (Or.inl ⟨by rfl, fun w' hS => (by go_simp)⟩) trivial ?_
    try simp only [Go.Act.put, List.setIfInBounds_toArray, List.set_cons_zero, List.set_cons_succ]
    refine wpH_take (i := 2) (v := (.pointer (some ⟨r, 0, none⟩))) (some 35) rfl rfl (by kernel_rfl) (by kernel_rfl) (by kernel_rfl) (fun _ _ _ h => h) (Or.inl ⟨by rfl, fun w' hS => (by go_simp)⟩) trivial ?_
    try simp only [Go.Act.put, List.setIfInBounds_toArray, List.set_cons_zero, List.set_cons_succ]
    refine wpH_take (i := 3) (v := (.pointer (some ⟨r, 1, none⟩))) (some 36) rfl rfl (by kernel_rfl) (by kernel_rfl) (by kernel_rfl) (fun _ _ _ h => h) (Or.inl ⟨by rfl, fun w' hS => (by go_simp)⟩) trivial ?_
    try simp only [Go.Act.put, List.setIfInBounds_toArray, List.set_cons_zero, List.set_cons_succ]
    refine wpH_take (i := 5) (v := (.pointer (some ⟨r, 0, none⟩))) (some 38) rfl rfl (by kernel_rfl) (by kernel_rfl) (by kernel_rfl) (fun _ _ _ h => h) (Or.inl ⟨by rfl, fun w' hS => (by go_simp)⟩) trivial ?_
    try simp only [Go.Act.put, List.setIfInBounds_toArray, List.set_cons_zero, List.set_cons_succ]
    refine wpH_take (i := 6) (v := (.pointer (some ⟨r, 0, none⟩))) (some 39) rfl rfl (by kernel_rfl) (by kernel_rfl) (by kernel_rfl) (fun _ _ _ h => h) (Or.inl ⟨by rfl, fun w' hS => (by go_simp)⟩) trivial ?_
    try simp only [Go.Act.put, List.setIfInBounds_toArray, List.set_cons_zero, List.set_cons_succ]
    refine wpH_take (i := 7) (v := (.pointer (some ⟨r, 1, none⟩))) (some 40) rfl rfl (by kernel_rfl) (by kernel_rfl) (by kernel_rfl) (fun _ _ _ h => h) (Or.inl ⟨by rfl, fun w' hS => (by go_simp)⟩) trivial ?_
    try simp only [Go.Act.put, List.setIfInBounds_toArray, List.set_cons_zero, List.set_cons_succ]
    refine wpH_take (i := 9) (v := (.pointer (some ⟨r, 0, none⟩))) (some 42) rfl rfl (by kernel_rfl) (by kernel_rfl) (by kernel_rfl) (fun _ _ _ h => h) (Or.inl ⟨by rfl, fun w' hS => (by go_simp)⟩) trivial ?_
    try simp only [Go.Act.put, List.setIfInBounds_toArray, List.set_cons_zero, List.set_cons_succ]
    refine wpH_take (i := 10) (v := (.pointer (some ⟨r, 0, none⟩))) (some 43) rfl rfl (by kernel_rfl) (by kernel_rfl) (by kernel_rfl) (fun _ _ _ h => h) (Or.inl ⟨by rfl, fun w' hS => (by go_simp)⟩) trivial ?_
    try simp only [Go.Act.put, List.setIfInBounds_toArray, List.set_cons_zero, List.set_cons_succ]
    refine wpH_take (i := 11) (v := (.pointer (some ⟨r, 0, none⟩))) (some 44) rfl rfl (by kernel_rfl) (by kernel_rfl) (by kernel_rfl) (fun _ _ _ h => h) (Or.inl ⟨by rfl, fun w' hS => (by go_simp)⟩) trivial ?_
    try simp only [Go.Act.put, List.setIfInBounds_toArray, List.set_cons_zero, List.set_cons_succ]
    refine wpH_ready (rs := [4, 8, 12]) (by kernel_rfl) (by simp) ?_
    refine AllH.cons (o := { dst := some 37, op := Op.load 3 (Operand.tmp 36), type := 3, pos := _, after := #[{ on := 3, ground := Ground.data }], guard := none }) rfl (fun K' hK => ?_) ?_
    · rw [if_pos (by rfl)]
      have z1 := C1
      go_simp
      clear z1
      refine hK.out _ _ trivial ?_
      clear hK
      try simp only [Go.Act.put, List.setIfInBounds_toArray, List.set_cons_zero, List.set_cons_succ]
      refine wpH_ready (rs := [8, 12]) (by kernel_rfl) (by simp) ?_
      refine AllH.cons (o := { dst := some 41, op := Op.load 3 (Operand.tmp 40), type := 3, pos := _, after := #[{ on := 7, ground := Ground.data }], guard := none }) rfl (fun K' hK => ?_) ?_
      · rw [if_pos (by rfl)]
        have z2 := C1
        go_simp
        clear z2
        refine hK.out _ _ trivial ?_
        clear hK
        try simp only [Go.Act.put, List.setIfInBounds_toArray, List.set_cons_zero, List.set_cons_succ]
        refine wpH_call (i := 12) (o := { dst := some 45, op := Op.load 9 (Operand.tmp 44), type := 9, pos := _, after := #[{ on := 11, ground := Ground.data }], guard := none }) (by kernel_rfl) rfl (fun K' hK => ?_)
        rw [if_pos (by rfl)]
        have z3 := C0
        go_simp
        clear z3
        refine hK.out _ _ trivial ?_
        clear hK
        try simp only [Go.Act.put, List.setIfInBounds_toArray, List.set_cons_zero, List.set_cons_succ]
        refine wpH_take (i := 13) (v := (.int .i64 (s.size : Int))) (some 46) rfl rfl (by kernel_rfl) (by kernel_rfl) (by kernel_rfl) (fun _ _ _ h => h) (Or.inl ⟨by rfl, fun w' hS => (by go_simp)⟩) trivial ?_
        try simp only [Go.Act.put, List.setIfInBounds_toArray, List.set_cons_zero, List.set_cons_succ]
        refine wpH_take (i := 14) (v := (.bool D)) (some 47) rfl rfl (by kernel_rfl) (by kernel_rfl) (by kernel_rfl) (fun _ _ _ h => h) (Or.inl ⟨by rfl, fun w' hS => (by go_simp)⟩) trivial ?_
        try simp only [Go.Act.put, List.setIfInBounds_toArray, List.set_cons_zero, List.set_cons_succ]
        refine wpH_call (i := 15) (o := { dst := some 48, op := Op.call { callee := Callee.value (Operand.func 92), args := #[Operand.tmp 33, Operand.tmp 37, Operand.tmp 47], argTypes := #[106, 3, 4] }, type := 4, pos := _, after := #[{ on := 0, ground := Ground.data }, { on := 4, ground := Ground.data }, { on := 14, ground := Ground.data }], guard := none }) (by kernel_rfl) rfl (fun K' hK => ?_)
        rw [if_pos (by rfl)]
        go_simp
        refine HP.out.mono ?_
        rintro e v4 ⟨rfl, q2, t2⟩
        refine hK.out _ _ trivial ?_
        clear hK
        try simp only [Go.Act.put, List.setIfInBounds_toArray, List.set_cons_zero, List.set_cons_succ]
        refine wpAnyH_done (by kernel_rfl) ?_ _
        go_wp2_with fail
        go_end0
        exact ⟨rfl, by rw [HE.out]; exact q2, TZ.out.trans' t2⟩
      refine AllH.cons (o := { dst := some 45, op := Op.load 9 (Operand.tmp 44), type := 9, pos := _, after := #[{ on := 11, ground := Ground.data }], guard := none }) rfl (fun K' hK => ?_) ?_
      · rw [if_pos (by rfl)]
        have z5 := C0
        go_simp
        clear z5
        refine hK.out _ _ trivial ?_
        clear hK
        try simp only [Go.Act.put, List.setIfInBounds_toArray, List.set_cons_zero, List.set_cons_succ]
        refine wpH_take (i := 13) (v := (.int .i64 (s.size : Int))) (some 46) rfl rfl (by kernel_rfl) (by kernel_rfl) (by kernel_rfl) (fun _ _ _ h => h) (Or.inl ⟨by rfl, fun w' hS => (by go_simp)⟩) trivial ?_
        try simp only [Go.Act.put, List.setIfInBounds_toArray, List.set_cons_zero, List.set_cons_succ]
        refine wpH_call (i := 8) (o := { dst := some 41, op := Op.load 3 (Operand.tmp 40), type := 3, pos := _, after := #[{ on := 7, ground := Ground.data }], guard := none }) (by kernel_rfl) rfl (fun K' hK => ?_)
        rw [if_pos (by rfl)]
        have z6 := C1
        go_simp
        clear z6
        refine hK.out _ _ trivial ?_
        clear hK
        try simp only [Go.Act.put, List.setIfInBounds_toArray, List.set_cons_zero, List.set_cons_succ]
        refine wpH_take (i := 14) (v := (.bool D)) (some 47) rfl rfl (by kernel_rfl) (by kernel_rfl) (by kernel_rfl) (fun _ _ _ h => h) (Or.inl ⟨by rfl, fun w' hS => (by go_simp)⟩) trivial ?_
        try simp only [Go.Act.put, List.setIfInBounds_toArray, List.set_cons_zero, List.set_cons_succ]
        refine wpH_call (i := 15) (o := { dst := some 48, op := Op.call { callee := Callee.value (Operand.func 92), args := #[Operand.tmp 33, Operand.tmp 37, Operand.tmp 47], argTypes := #[106, 3, 4] }, type := 4, pos := _, after := #[{ on := 0, ground := Ground.data }, { on := 4, ground := Ground.data }, { on := 14, ground := Ground.data }], guard := none }) (by kernel_rfl) rfl (fun K' hK => ?_)
        rw [if_pos (by rfl)]
        go_simp
        refine HP.out.mono ?_
        rintro e v7 ⟨rfl, q2, t2⟩
        refine hK.out _ _ trivial ?_
        clear hK
        try simp only [Go.Act.put, List.setIfInBounds_toArray, List.set_cons_zero, List.set_cons_succ]
        refine wpAnyH_done (by kernel_rfl) ?_ _
        go_wp2_with fail
        go_end0
        exact ⟨rfl, by rw [HE.out]; exact q2, TZ.out.trans' t2⟩
      exact AllH.nil
    refine AllH.cons (o := { dst := some 41, op := Op.load 3 (Operand.tmp 40), type := 3, pos := _, after := #[{ on := 7, ground := Ground.data }], guard := none }) rfl (fun K' hK => ?_) ?_
    · rw [if_pos (by rfl)]
      have z8 := C1
      go_simp
      clear z8
      refine hK.out _ _ trivial ?_
      clear hK
      try simp only [Go.Act.put, List.setIfInBounds_toArray, List.set_cons_zero, List.set_cons_succ]
      refine wpH_ready (rs := [4, 12]) (by kernel_rfl) (by simp) ?_
      refine AllH.cons (o := { dst := some 37, op := Op.load 3 (Operand.tmp 36), type := 3, pos := _, after := #[{ on := 3, ground := Ground.data }], guard := none }) rfl (fun K' hK => ?_) ?_
      · rw [if_pos (by rfl)]
        have z9 := C1
        go_simp
        clear z9
        refine hK.out _ _ trivial ?_
        clear hK
        try simp only [Go.Act.put, List.setIfInBounds_toArray, List.set_cons_zero, List.set_cons_succ]
        refine wpH_call (i := 12) (o := { dst := some 45, op := Op.load 9 (Operand.tmp 44), type := 9, pos := _, after := #[{ on := 11, ground := Ground.data }], guard := none }) (by kernel_rfl) rfl (fun K' hK => ?_)
        rw [if_pos (by rfl)]
        have z10 := C0
        go_simp
        clear z10
        refine hK.out _ _ trivial ?_
        clear hK
        try simp only [Go.Act.put, List.setIfInBounds_toArray, List.set_cons_zero, List.set_cons_succ]
        refine wpH_take (i := 13) (v := (.int .i64 (s.size : Int))) (some 46) rfl rfl (by kernel_rfl) (by kernel_rfl) (by kernel_rfl) (fun _ _ _ h => h) (Or.inl ⟨by rfl, fun w' hS => (by go_simp)⟩) trivial ?_
        try simp only [Go.Act.put, List.setIfInBounds_toArray, List.set_cons_zero, List.set_cons_succ]
        refine wpH_take (i := 14) (v := (.bool D)) (some 47) rfl rfl (by kernel_rfl) (by kernel_rfl) (by kernel_rfl) (fun _ _ _ h => h) (Or.inl ⟨by rfl, fun w' hS => (by go_simp)⟩) trivial ?_
        try simp only [Go.Act.put, List.setIfInBounds_toArray, List.set_cons_zero, List.set_cons_succ]
        refine wpH_call (i := 15) (o := { dst := some 48, op := Op.call { callee := Callee.value (Operand.func 92), args := #[Operand.tmp 33, Operand.tmp 37, Operand.tmp 47], argTypes := #[106, 3, 4] }, type := 4, pos := _, after := #[{ on := 0, ground := Ground.data }, { on := 4, ground := Ground.data }, { on := 14, ground := Ground.data }], guard := none }) (by kernel_rfl) rfl (fun K' hK => ?_)
        rw [if_pos (by rfl)]
        go_simp
        refine HP.out.mono ?_
        rintro e v11 ⟨rfl, q2, t2⟩
        refine hK.out _ _ trivial ?_
        clear hK
        try simp only [Go.Act.put, List.setIfInBounds_toArray, List.set_cons_zero, List.set_cons_succ]
        refine wpAnyH_done (by kernel_rfl) ?_ _
        go_wp2_with fail
        go_end0
        exact ⟨rfl, by rw [HE.out]; exact q2, TZ.out.trans' t2⟩
      refine AllH.cons (o := { dst := some 45, op := Op.load 9 (Operand.tmp 44), type := 9, pos := _, after := #[{ on := 11, ground := Ground.data }], guard := none }) rfl (fun K' hK => ?_) ?_
      · rw [if_pos (by rfl)]
        have z12 := C0
        go_simp
        clear z12
        refine hK.out _ _ trivial ?_
        clear hK
        try simp only [Go.Act.put, List.setIfInBounds_toArray, List.set_cons_zero, List.set_cons_succ]
        refine wpH_take (i := 13) (v := (.int .i64 (s.size : Int))) (some 46) rfl rfl (by kernel_rfl) (by kernel_rfl) (by kernel_rfl) (fun _ _ _ h => h) (Or.inl ⟨by rfl, fun w' hS => (by go_simp)⟩) trivial ?_
        try simp only [Go.Act.put, List.setIfInBounds_toArray, List.set_cons_zero, List.set_cons_succ]
        refine wpH_take (i := 14) (v := (.bool D)) (some 47) rfl rfl (by kernel_rfl) (by kernel_rfl) (by kernel_rfl) (fun _ _ _ h => h) (Or.inl ⟨by rfl, fun w' hS => (by go_simp)⟩) trivial ?_
        try simp only [Go.Act.put, List.setIfInBounds_toArray, List.set_cons_zero, List.set_cons_succ]
        refine wpH_call (i := 4) (o := { dst := some 37, op := Op.load 3 (Operand.tmp 36), type := 3, pos := _, after := #[{ on := 3, ground := Ground.data }], guard := none }) (by kernel_rfl) rfl (fun K' hK => ?_)
        rw [if_pos (by rfl)]
        have z13 := C1
        go_simp
        clear z13
        refine hK.out _ _ trivial ?_
        clear hK
        try simp only [Go.Act.put, List.setIfInBounds_toArray, List.set_cons_zero, List.set_cons_succ]
        refine wpH_call (i := 15) (o := { dst := some 48, op := Op.call { callee := Callee.value (Operand.func 92), args := #[Operand.tmp 33, Operand.tmp 37, Operand.tmp 47], argTypes := #[106, 3, 4] }, type := 4, pos := _, after := #[{ on := 0, ground := Ground.data }, { on := 4, ground := Ground.data }, { on := 14, ground := Ground.data }], guard := none }) (by kernel_rfl) rfl (fun K' hK => ?_)
        rw [if_pos (by rfl)]
        go_simp
        refine HP.out.mono ?_
        rintro e v14 ⟨rfl, q2, t2⟩
        refine hK.out _ _ trivial ?_
        clear hK
        try simp only [Go.Act.put, List.setIfInBounds_toArray, List.set_cons_zero, List.set_cons_succ]
        refine wpAnyH_done (by kernel_rfl) ?_ _
        go_wp2_with fail
        go_end0
        exact ⟨rfl, by rw [HE.out]; exact q2, TZ.out.trans' t2⟩
      exact AllH.nil
    refine AllH.cons (o := { dst := some 45, op := Op.load 9 (Operand.tmp 44), type := 9, pos := _, after := #[{ on := 11, ground := Ground.data }], guard := none }) rfl (fun K' hK => ?_) ?_
    · rw [if_pos (by rfl)]
      have z15 := C0
      go_simp
      clear z15
      refine hK.out _ _ trivial ?_
      clear hK
      try simp only [Go.Act.put, List.setIfInBounds_toArray, List.set_cons_zero, List.set_cons_succ]
      refine wpH_take (i := 13) (v := (.int .i64 (s.size : Int))) (some 46) rfl rfl (by kernel_rfl) (by kernel_rfl) (by kernel_rfl) (fun _ _ _ h => h) (Or.inl ⟨by rfl, fun w' hS => (by go_simp)⟩) trivial ?_
      try simp only [Go.Act.put, List.setIfInBounds_toArray, List.set_cons_zero, List.set_cons_succ]
      refine wpH_ready (rs := [4, 8]) (by kernel_rfl) (by simp) ?_
      refine AllH.cons (o := { dst := some 37, op := Op.load 3 (Operand.tmp 36), type := 3, pos := _, after := #[{ on := 3, ground := Ground.data }], guard := none }) rfl (fun K' hK => ?_) ?_
      · rw [if_pos (by rfl)]
        have z16 := C1
        go_simp
        clear z16
        refine hK.out _ _ trivial ?_
        clear hK
        try simp only [Go.Act.put, List.setIfInBounds_toArray, List.set_cons_zero, List.set_cons_succ]
        refine wpH_call (i := 8) (o := { dst := some 41, op := Op.load 3 (Operand.tmp 40), type := 3, pos := _, after := #[{ on := 7, ground := Ground.data }], guard := none }) (by kernel_rfl) rfl (fun K' hK => ?_)
        rw [if_pos (by rfl)]
        have z17 := C1
        go_simp
        clear z17
        refine hK.out _ _ trivial ?_
        clear hK
        try simp only [Go.Act.put, List.setIfInBounds_toArray, List.set_cons_zero, List.set_cons_succ]
        refine wpH_take (i := 14) (v := (.bool D)) (some 47) rfl rfl (by kernel_rfl) (by kernel_rfl) (by kernel_rfl) (fun _ _ _ h => h) (Or.inl ⟨by rfl, fun w' hS => (by go_simp)⟩) trivial ?_
        try simp only [Go.Act.put, List.setIfInBounds_toArray, List.set_cons_zero, List.set_cons_succ]
        refine wpH_call (i := 15) (o := { dst := some 48, op := Op.call { callee := Callee.value (Operand.func 92), args := #[Operand.tmp 33, Operand.tmp 37, Operand.tmp 47], argTypes := #[106, 3, 4] }, type := 4, pos := _, after := #[{ on := 0, ground := Ground.data }, { on := 4, ground := Ground.data }, { on := 14, ground := Ground.data }], guard := none }) (by kernel_rfl) rfl (fun K' hK => ?_)
        rw [if_pos (by rfl)]
        go_simp
        refine HP.out.mono ?_
        rintro e v18 ⟨rfl, q2, t2⟩
        refine hK.out _ _ trivial ?_
        clear hK
        try simp only [Go.Act.put, List.setIfInBounds_toArray, List.set_cons_zero, List.set_cons_succ]
        refine wpAnyH_done (by kernel_rfl) ?_ _
        go_wp2_with fail
        go_end0
        exact ⟨rfl, by rw [HE.out]; exact q2, TZ.out.trans' t2⟩
      refine AllH.cons (o := { dst := some 41, op := Op.load 3 (Operand.tmp 40), type := 3, pos := _, after := #[{ on := 7, ground := Ground.data }], guard := none }) rfl (fun K' hK => ?_) ?_
      · rw [if_pos (by rfl)]
        have z19 := C1
        go_simp
        clear z19
        refine hK.out _ _ trivial ?_
        clear hK
        try simp only [Go.Act.put, List.setIfInBounds_toArray, List.set_cons_zero, List.set_cons_succ]
        refine wpH_take (i := 14) (v := (.bool D)) (some 47) rfl rfl (by kernel_rfl) (by kernel_rfl) (by kernel_rfl) (fun _ _ _ h => h) (Or.inl ⟨by rfl, fun w' hS => (by go_simp)⟩) trivial ?_
        try simp only [Go.Act.put, List.setIfInBounds_toArray, List.set_cons_zero, List.set_cons_succ]
        refine wpH_call (i := 4) (o := { dst := some 37, op := Op.load 3 (Operand.tmp 36), type := 3, pos := _, after := #[{ on := 3, ground := Ground.data }], guard := none }) (by kernel_rfl) rfl (fun K' hK => ?_)
        rw [if_pos (by rfl)]
        have z20 := C1
        go_simp
        clear z20
        refine hK.out _ _ trivial ?_
        clear hK
        try simp only [Go.Act.put, List.setIfInBounds_toArray, List.set_cons_zero, List.set_cons_succ]
        refine wpH_call (i := 15) (o := { dst := some 48, op := Op.call { callee := Callee.value (Operand.func 92), args := #[Operand.tmp 33, Operand.tmp 37, Operand.tmp 47], argTypes := #[106, 3, 4] }, type := 4, pos := _, after := #[{ on := 0, ground := Ground.data }, { on := 4, ground := Ground.data }, { on := 14, ground := Ground.data }], guard := none }) (by kernel_rfl) rfl (fun K' hK => ?_)
        rw [if_pos (by rfl)]
        go_simp
        refine HP.out.mono ?_
        rintro e v21 ⟨rfl, q2, t2⟩
        refine hK.out _ _ trivial ?_
        clear hK
        try simp only [Go.Act.put, List.setIfInBounds_toArray, List.set_cons_zero, List.set_cons_succ]
        refine wpAnyH_done (by kernel_rfl) ?_ _
        go_wp2_with fail
        go_end0
        exact ⟨rfl, by rw [HE.out]; exact q2, TZ.out.trans' t2⟩
      exact AllH.nil
    exact AllH.nil
end Go.Proofs.YtpefbmheblfbeaaGreat.Sn
/- The contract of Read: what is wrong with the bytes, and where, or what memo.Of makes of what they say; the text's length is a number of the language's. -/
namespace Go.Proofs.YtpefbmheblfbeaaGreat.Sn
open Go.RowKit Go.Sort Go.Shelf Me
set_option linter.unusedVariables false
set_option linter.unusedSimpArgs false
theorem numR_v {s : ByteArray} {x : Rd} {a b : Int} (ha : 0 ≤ a) (hb : 0 ≤ b) : 0 ≤ (numR s x a b).2 ∧ (numR s x a b).2 ≤ b := by
  unfold numR
  split
  · exact ⟨Int.le_refl _, hb⟩
  · split
    · split
      · rename_i p q hh
        exact ⟨by show (0 : Int) ≤ (_ : Nat); omega, hh.2⟩
      · exact ⟨Int.le_refl _, hb⟩
    · exact ⟨Int.le_refl _, hb⟩
theorem Rin.mark {s : ByteArray} {x : Rd} (h : Rin s x) (m : List UInt8) : Rin s (markR s x m) := by
  unfold markR
  refine h.pass (fun e => ?_)
  unfold prefB at e
  have := congrArg List.length (of_decide_eq_true e)
  rw [List.length_take, List.length_drop, Array.length_toList] at this
  have h2 : min m.length (s.size - x.at_.toNat) = m.length := this
  have := h.1
  have := h.2
  omega
theorem Rin.ents {s : ByteArray} {c : Cf} {now : Int} : ∀ (n : Nat) {x : Rd} (L : List En), Rin s x → Rin s (entsR s c now n x L).1
  | 0, x, L, h => h
  | n + 1, x, L, h => by
    rw [entsR]
    split
    · exact Rin.ents n _ (((h.key _).num _ _).out c)
    · exact h
theorem keyR_ok (s : ByteArray) (x : Rd) (A : List K) : Ok (keyR s x A).2 := by
  have hz : Ok zk := ⟨by decide, by decide⟩
  unfold keyR
  cases ht : takK s x.at_ with
  | none => exact hz
  | some p =>
    obtain ⟨a1, a2, a3, _⟩ := takK_b (k := p.1) (n := p.2) ht
    simp only
    split
    · exact hz
    · split
      · exact ⟨by simp [Lit.wf, IntKind.min, IntKind.max, IntKind.signed, IntKind.bits]; omega, Nat.le_trans a3 (by decide)⟩
      · exact hz
theorem entsR_ok {s : ByteArray} {c : Cf} {now : Int} : ∀ (n : Nat) (x : Rd) (L : List En), (∀ e ∈ L, Ok e.1) → ∀ e ∈ (entsR s c now n x L).2, Ok e.1
  | 0, x, L, h => h
  | n + 1, x, L, h => by
    rw [entsR]
    split
    · refine entsR_ok n _ _ (fun e he => ?_)
      rcases List.mem_append.1 he with h1 | h1
      · exact h e h1
      · rw [List.mem_singleton] at h1
        rw [h1]
        exact keyR_ok s x _
    · exact h
theorem entsR_len {s : ByteArray} {c : Cf} {now : Int} : ∀ (n : Nat) (x : Rd) (L : List En), (entsR s c now n x L).2.length ≤ L.length + n
  | 0, x, L => Nat.le_refl _
  | n + 1, x, L => by
    rw [entsR]
    split
    · have := entsR_len (s := s) (c := c) (now := now) n (entR s x c now (keysL L)).1 (L ++ [(entR s x c now (keysL L)).2])
      rw [List.length_append] at this
      simp at this
      omega
    · show L.length ≤ _; omega
theorem w64' {x : Int} (h0 : 0 ≤ x) (h1 : x ≤ 9223372036854775807) : W64 x := by
  unfold W64
  simp [Lit.wf, IntKind.min, IntKind.max, IntKind.signed, IntKind.bits]
  omega
end Go.Proofs.YtpefbmheblfbeaaGreat.Sn
/- The contract of the document's reader for a number; the text's length is a number of the language's, the reader stands within the text. -/
namespace Go.Proofs.YtpefbmheblfbeaaGreat.Sn
open Go.RowKit Go.Sort Go.Shelf Me
set_option linter.unusedVariables false
set_option linter.unusedSimpArgs false
theorem passS_ok {x : Rd} (h : x.er = 0) (n : Int) (b : Bool) : passS x n b = if b = true then ⟨n, 0⟩ else ⟨x.at_, 200⟩ := by unfold passS; rw [if_neg (by simpa using h)]
theorem passB_ok {x : Rd} (h : x.er = 0) (b : Bool) : passB x b = b := by unfold passB; rw [if_neg (by simpa using h)]
end Go.Proofs.YtpefbmheblfbeaaGreat.Sn
/- The contract of the document's keysOf: the keys of entries; the list has at most 70000. -/
namespace Go.Proofs.YtpefbmheblfbeaaGreat.Sn
open Go.RowKit Go.Sort Go.Shelf Me
set_option linter.unusedVariables false
set_option linter.unusedSimpArgs false
def kcs (ks : List K) : List Value := ks.flatMap (fun k => [.int .u16 k.1, .string k.2])
theorem kcs_snoc (ks : List K) (k : K) : kcs (ks ++ [k]) = kcs ks ++ [.int .u16 k.1, .string k.2] := by unfold kcs; simp
end Go.Proofs.YtpefbmheblfbeaaGreat.Sn
/- The contracts of the program's keysOf, has and tellKeys of snapshots; no conditions but those that each states. -/
namespace Go.Proofs.YtpefbmheblfbeaaGreat.Sn
open Go.RowKit Go.Sort Go.Shelf Me
set_option linter.unusedVariables false
set_option linter.unusedSimpArgs false
theorem infoAk : (Tryz.prog.info? 54).map (fun i => (i.zero, i.size, i.bytes)) = some (some (.agg #[.int .u16 0, .string ⟨#[]⟩]), 2, 24) := by kernel_rfl
theorem kcs_take {xs : List En} {p : Nat} (h : p < xs.length) : kcs ((keysL xs).take (p + 1)) = kcs ((keysL xs).take p) ++ [.int .u16 xs[p].1.1, .string xs[p].1.2] := by
  have e : (keysL xs).take (p + 1) = (keysL xs).take p ++ [xs[p].1] := by
    rw [List.take_succ_eq_append_getElem (by simpa [keysL] using h)]; simp [keysL]
  rw [e, kcs_snoc]
set_option maxRecDepth 20000 in
set_option maxHeartbeats 4000000 in
theorem pkeysOf_ {w : World} {m : Nat} {F : List Nat} {c : Cf} {now : Int} {xs : List En} (h : Mq w m F c now xs) : Calls Tryz.prog 60 #[PT m] w fun e w' => ∃ u, e = .returned u ∧ w'.ownsRow w.heap.size 54 2 u (keysL xs).length (kcs (keysL xs)) ∧ Touch [] w w' := by
  have hl : xs.length ≤ 65536 := by obtain ⟨b, o, G, _, hb⟩ := id h; exact hb.len
  have HAL := hid (allM w m F c now xs h)
  have HKL : Hid ((keysL xs).length = xs.length) := hid (by simp [keysL])
  clear h
  obtain ⟨n, hn⟩ : ∃ n, n = xs.length := ⟨_, rfl⟩
  have HN := hid hn
  have HNL : Hid (n ≤ 65536) := hid (by omega)
  clear hn hl
  unfold PT at *
  go_enter Tryz.func60, Tryz.ntmps60
  go_wp2_with (go_at_call 38; refine HAL.out.mono ?_; rintro e w2 ⟨v2, rfl, hq2⟩; obtain ⟨a2, c2, e2⟩ := own_form hq2.1; subst e2; have HQ2 := hid hq2; clear hq2; rw [← HN.out])
  clear HAL
  go_loopw [3, 9] (fun s3 si wr => ∃ (i : Nat) (b : Option Addr) (cp : Nat), si = .int .i64 i ∧ i ≤ n ∧ s3 = .slice b i cp ∧ Hid (Touch [] w2 wr ∧ wr.ownsRow w2.heap.size 54 2 (.slice b i cp) i (kcs ((keysL xs).take i)))) (fun _ si _ => n - (intOf si).toNat)
  case atStart => exact ⟨0, none, 0, rfl, Nat.zero_le _, rfl, hid ⟨Touch.refl _ _, by simp [kcs], Or.inl ⟨rfl, rfl⟩⟩⟩
  case round =>
    obtain ⟨i, b, cp, rfl, hi, rfl, HI⟩ := hrel
    obtain ⟨wo, hwo⟩ : ∃ wo, wo = wr := ⟨_, rfl⟩
    rw [← hwo] at HI ⊢
    clear hwo wr
    have hnl := HNL.out
    by_cases hlt : i < n
    · have hz : (i : Int) < (n : Int) := by omega
      have hix : i < xs.length := by rw [← HN.out]; exact hlt
      obtain ⟨g2, o2, rfl, k0, k1, k2, k3, k4, k5, k6⟩ := own7_cell (own_touch HQ2.out.1 HI.out.1 (fun _ _ e => by cases e)) hix
      have HTK := hid (kcs_take hix)
      generalize xs[i] = x at *
      obtain ⟨W1, hW1⟩ : ∃ W1, W1 = wo.alloc (.cells #[.int .u16 x.1.1, .string x.1.2, .int .i64 x.2.1.1, .int .i64 x.2.1.2.1, .int .i64 x.2.1.2.2.1, .int .i64 x.2.1.2.2.2, .int .i64 x.2.2] 60) := ⟨_, rfl⟩
      have tW : Touch [] wo W1 := by rw [hW1]; exact (Touch.refl _ _).alloc _
      have hbx : W1.heap[wo.heap.size]? = some (.cells #[.int .u16 x.1.1, .string x.1.2, .int .i64 x.2.1.1, .int .i64 x.2.1.2.1, .int .i64 x.2.1.2.2.1, .int .i64 x.2.1.2.2.2, .int .i64 x.2.2] 60 (0, 0)) := by rw [hW1]; exact heap_alloc_new wo _
      have x0 := cell_of (n := 0) hbx rfl
      have x1 := cell_of (n := 1) hbx rfl
      have HA : Hid (∀ w5, Touch [] W1 w5 → w5.ownsRow w2.heap.size 54 2 (.slice b i cp) i (kcs ((keysL xs).take i)) ∧ w2.heap.size ≤ w5.heap.size ∧ Touch [] w2 w5) := hid (fun w5 t5 => ⟨own_touch HI.out.2 (tW.trans' t5) (fun _ _ e => by cases e), (HI.out.1.trans' (tW.trans' t5)).size, HI.out.1.trans' (tW.trans' t5)⟩)
      have HLT := hid (And.intro hi hlt)
      clear hbx tW hix HI
      generalize kcs ((keysL xs).take i) = vs at *
      go_upto_region 5 with fail
      rw [← hW1]
      clear hW1 k0 k1 k2 k3 k4 k5 k6
      go_wp2_with (at_builtin; refine wpList_append_rs rfl _ _ 61 54 rfl _ 2 24 infoAk Tryz.underlying61 rfl (by decide) w2.heap.size (.slice b i cp) i vs rfl (HA.out _ ((Touch.refl _ _).alloc _)).1 (.slice (some ⟨W1.heap.size, 0, none⟩) 1 1) 1 _ rfl (Rs.new W1 #[.int .u16 x.1.1, .string x.1.2] 54 2 rfl) (by simp [Value.oneCell']) (by unfold maxLen; have := HNL.out; have := HLT.out; omega) (by have := HNL.out; have := HLT.out; omega) (HA.out _ ((Touch.refl _ _).alloc _)).2.1 ?_; intro v6 w6 o6 g6 _; obtain ⟨a6, c6, e6, _⟩ := (Rs.of_own o6).form; subst e6; have O6 := hid o6; have T6 := hid (touch_grown (HA.out _ ((Touch.refl _ _).alloc _)).2.2 g6 (HA.out _ ((Touch.refl _ _).alloc _)).1 (Nat.le_refl _)); clear o6 g6)
      go_roundw
      case rel => exact ⟨i + 1, a6, c6, by go_num, by have := HLT.out; omega, rfl, hid ⟨T6.out, by rw [HTK.out]; exact O6.out⟩⟩
      case measure => simp [intOf]; have := HLT.out; omega
    · have hz : ¬ (i : Int) < (n : Int) := by omega
      have HZ : Hid (wo.ownsRow w.heap.size 54 2 (.slice b i cp) (keysL xs).length (kcs (keysL xs)) ∧ Touch [] w wo) := hid (by
        have e : i = (keysL xs).length := by have := HKL.out; have := HN.out; omega
        have q := HI.out.2
        rw [List.take_of_length_le (by omega)] at q
        rw [e] at q ⊢
        exact ⟨own_base q HQ2.out.2.size, HQ2.out.2.trans' HI.out.1⟩)
      clear HI
      go_wp2
      go_ret
      exact ⟨_, rfl, HZ.out⟩
theorem phas_ {w : World} {m : Nat} {F : List Nat} {c : Cf} {now : Int} {xs : List En} (h : Mq w m F c now xs) (k : K) (hk : Ok k) : Calls Tryz.prog 101 #[PT m, kv k] w fun e w' => e = .returned (.bool (getS xs k).2) ∧ Touch [] w w' := by
  have HG := hid (fun w' (t : Touch [] w w') => getM w' m F c now xs (h.keep0 t) k hk)
  have hv : ∃ y0 y1 y2 y3 y4 y5 y6, (getS xs k).1 = .agg #[.int .u16 y0, .string y1, .int .i64 y2, .int .i64 y3, .int .i64 y4, .int .i64 y5, .int .i64 y6] := by
    unfold getS
    split
    · exact ⟨_, _, _, _, _, _, _, rfl⟩
    · exact ⟨_, _, _, _, _, _, _, rfl⟩
  obtain ⟨y0, y1, y2, y3, y4, y5, y6, ev⟩ := hv
  rw [ev] at HG
  clear h hk ev
  generalize (getS xs k).2 = bb at *
  unfold PT kv at *
  go_enter Tryz.func101, Tryz.ntmps101
  go_wp2_with (go_at_call 90; refine (HG.out _ ((Touch.refl _ _).alloc _)).mono ?_; rintro e w1 ⟨rfl, t1⟩; have T1 := hid (((Touch.refl [] w).alloc (.cells #[.int .u16 k.1, .string k.2] 54)).trans' t1); clear t1)
  go_ret
  exact ⟨rfl, T1.out.alloc _⟩
end Go.Proofs.YtpefbmheblfbeaaGreat.Sn
/- The contract of the document's takeKey: the next key, that is none of those ahead; the text's length is a number of the language's, the reader stands within the text. -/
namespace Go.Proofs.YtpefbmheblfbeaaGreat.Sn
open Go.RowKit Go.Sort Go.Shelf Me
set_option linter.unusedVariables false
set_option linter.unusedSimpArgs false
theorem kcs_at {A : List K} {p : Nat} (h : p < A.length) : (kcs A)[p * 2]? = some (.int .u16 A[p].1) ∧ (kcs A)[p * 2 + 1]? = some (.string A[p].2) := by
  have h0 := flat_at (f := fun k : K => [Value.int .u16 k.1, .string k.2]) (k := 2) (fun _ => rfl) A p 0 A[p] (List.getElem?_eq_getElem h) (by omega)
  have h1 := flat_at (f := fun k : K => [Value.int .u16 k.1, .string k.2]) (k := 2) (fun _ => rfl) A p 1 A[p] (List.getElem?_eq_getElem h) (by omega)
  unfold kcs
  exact ⟨by simpa using h0, by simpa using h1⟩
end Go.Proofs.YtpefbmheblfbeaaGreat.Sn
/- The contract of the program's tellKeys; the keys are such as may be, the list has at most 70000. -/
namespace Go.Proofs.YtpefbmheblfbeaaGreat.Sn
open Go.RowKit Go.Sort Go.Shelf Me
set_option linter.unusedVariables false
set_option linter.unusedSimpArgs false
def RK2 (w : World) (a : Option Addr) (ks : List K) : Prop := 0 < ks.length → ∃ g, a = some ⟨g, 0, none⟩ ∧ ∃ cs, w.heap[g]? = some (.cells cs 54 (0, 0)) ∧ ∀ i (h : i < ks.length), cs[i * 2]? = some (.int .u16 ks[i].1) ∧ cs[i * 2 + 1]? = some (.string ks[i].2)
theorem kcs_len : ∀ (ks : List K), (kcs ks).length = ks.length * 2
  | [] => rfl
  | k :: ks => by
    have q := kcs_len ks
    unfold kcs at q ⊢
    rw [List.flatMap_cons, List.length_append, q, List.length_cons]
    simp
    omega
theorem rk2_own {w : World} {B : Nat} {a : Option Addr} {c : Nat} {ks : List K} (h : w.ownsRow B 54 2 (.slice a ks.length c) ks.length (kcs ks)) : RK2 w a ks := fun hp => by
  obtain ⟨g, c', e, _, _⟩ := own_some h hp
  cases e
  obtain ⟨cur, hc, hn, hm, hs, ht, hg, hl⟩ := own_block h
  have q : ∀ p v, (kcs ks)[p]? = some v → cur[p]? = some v := fun p v hp => by
    have hp' : p < (kcs ks).length := (List.getElem?_eq_some_iff.1 hp).1
    rw [← Array.getElem?_toList, ← hp, ← ht, List.getElem?_take, if_pos (by rw [kcs_len] at hp'; omega)]
  exact ⟨g, rfl, cur, hc, fun i hi => ⟨q _ _ (kcs_at hi).1, q _ _ (kcs_at hi).2⟩⟩
theorem RK2.wr {w w' : World} {a : Option Addr} {ks : List K} {B b : Nat} {l : List UInt8} (h : RK2 w a ks) (hb : Bd B b l w) (hw : Wr B b w w') : RK2 w' a ks := fun hp => by
  obtain ⟨g, e, cs, hc, q⟩ := h hp
  refine ⟨g, e, cs, hw.keep g _ hc (fun e => ?_) (fun c fz e => ?_), q⟩
  · obtain ⟨cs', hb'⟩ := hb.at
    rw [e, hb'] at hc
    injection hc with hc
    injection hc with _ e2 _
    exact absurd e2.symm (by decide)
  · injection e with _ e2 _
    exact absurd e2 (by decide)
section
variable {w : World} {B b : Nat} {l : List UInt8}
theorem keys_le : ∀ (ks : List K), (∀ k ∈ ks, k.2.size ≤ 64) → (ks.flatMap keyB).length ≤ ks.length * 67
  | [], _ => by simp
  | k :: ks, h => by
    have q := keys_le ks (fun x hx => h x (by simp [hx]))
    have q2 := keyB_len k
    have q3 := h k (by simp)
    rw [List.flatMap_cons, List.length_append, List.length_cons]
    omega
set_option maxHeartbeats 4000000 in
theorem tellKeys_ (h : Bd B b l w) (ks : List K) (a : Option Addr) (c : Nat) (hv : RK2 w a ks) (hx : ∀ k ∈ ks, 0 ≤ k.1 ∧ k.1 ≤ 65535 ∧ k.2.size ≤ 64) (hl : l.length ≤ 1000000000) (hn : ks.length ≤ 70000) : Calls Tryz.prog 57 #[PT b, .slice a ks.length c] w fun e w' => e = .returned (.tuple #[]) ∧ Bd B b (l ++ keysB ks) w' ∧ Wr B b w w' := by
  have H1 := hid (tellNumber_ h (ks.length : Int) (by omega) (by omega) (by omega))
  have HR := hid (fun w' (hw : Wr B b w w') => hv.wr h hw)
  obtain ⟨n, hn'⟩ : ∃ n, n = ks.length := ⟨_, rfl⟩
  rw [← hn'] at H1 ⊢
  have HN := hid hn'
  have HL : Hid (∀ i, (l ++ nB (n : Int) ++ (ks.take i).flatMap keyB).length ≤ 2000000000) := hid (fun i => by
    have q1 := nB_len (n := (n : Int)) (by omega)
    have q2 := keys_le (ks.take i) (fun x hx' => (hx x (List.mem_of_mem_take hx')).2.2)
    rw [List.length_take] at q2
    simp only [List.length_append]
    omega)
  have HX := hid hx
  have HB := hid h.2
  have HN7 : Hid (n ≤ 70000) := hid (by omega)
  have HE : Hid (l ++ keysB ks = l ++ nB (n : Int) ++ ks.flatMap keyB) := hid (by unfold keysB; rw [hn', List.append_assoc])
  unfold PT at *
  clear h hx hl hn hn' hv
  go_enter Tryz.func57, Tryz.ntmps57
  go_wp2_with (go_at_call 36; refine H1.out.mono ?_; rintro e w1 ⟨rfl, b1, q1⟩)
  have HI0 : Hid (Bd B b (l ++ nB (n : Int) ++ (ks.take 0).flatMap keyB) w1 ∧ Wr B b w w1) := hid ⟨by simpa using b1, q1⟩
  clear b1 q1 H1
  go_loopw [5, 12] (fun _ i wr => ∃ p : Nat, i = .int .i64 p ∧ p ≤ n ∧ Hid (Bd B b (l ++ nB (n : Int) ++ (ks.take p).flatMap keyB) wr ∧ Wr B b w wr)) (fun _ i _ => n - (intOf i).toNat)
  case atStart => exact ⟨0, rfl, Nat.zero_le _, HI0⟩
  case round =>
    clear HI0
    obtain ⟨p, rfl, hp, HI⟩ := hrel
    by_cases hlt : p < n
    · have zp : (p : Int) < (n : Int) := by omega
      have hix : p < ks.length := by have := HN.out; omega
      obtain ⟨g, rfl, cs, hc, hq⟩ := HR.out _ HI.out.2 (by omega)
      have r0 := cell_at hc (hq p hix).1
      have r1 := cell_at hc (hq p hix).2
      have hok := HX.out ks[p] (List.getElem_mem hix)
      have HT : Hid (l ++ nB (n : Int) ++ (ks.take (p + 1)).flatMap keyB = l ++ nB (n : Int) ++ (ks.take p).flatMap keyB ++ keyB ks[p]) := hid (by
        rw [List.take_succ_eq_append_getElem hix, List.flatMap_append]
        simp [List.append_assoc])
      have hL := HL.out p
      have wp1 : IntKind.i64.wrap ((p : Int) + 1) = (p : Int) + 1 := by rw [IntKind.wrap_i64]; have := HN7.out; omega
      have HNk := hid (And.intro hp hlt)
      clear hc hq
      generalize ks[p] = x at *
      generalize l ++ nB (n : Int) ++ (ks.take p).flatMap keyB = L at *
      obtain ⟨W1, hW1⟩ : ∃ W1, W1 = wr.alloc (.cells #[.int .u16 x.1, .string x.2] 54) := ⟨_, rfl⟩
      have tW : Touch [] wr W1 := by rw [hW1]; exact (Touch.refl _ _).alloc _
      have hbx : W1.heap[wr.heap.size]? = some (.cells #[.int .u16 x.1, .string x.2] 54 (0, 0)) := by rw [hW1]; exact heap_alloc_new wr _
      have HF := hid (fun w' (hw : Wr B b W1 w') => HI.out.2.trans (Wr.from tW hw HI.out.1.2.1))
      have K1 := hid (tellKey_ (HI.out.1.touch tW) x hok.1 hok.2.1 hok.2.2 (by omega))
      have p0 := cell_of (n := 0) hbx rfl
      have p1 := cell_of (n := 1) hbx rfl
      obtain ⟨sp, nm⟩ := x
      unfold PT kv at *
      simp only at *
      clear hbx hok hL hp hlt tW hix
      go_upto_region 4 with fail
      rw [← hW1]
      clear hW1 r0 r1
      go_wp2_with (go_at_call 87; refine K1.out.mono ?_; rintro e w2 ⟨rfl, b2, q2⟩)
      go_roundw
      case rel => exact ⟨p + 1, by go_num, by have := HNk.out; omega, hid ⟨by rw [HT.out]; exact b2, HF.out _ q2⟩⟩
      case measure => simp [intOf]; have := HNk.out; omega
    · have zp : ¬ (p : Int) < (n : Int) := by omega
      have HZ : Hid (Bd B b (l ++ keysB ks) wr ∧ Wr B b w wr) := hid ⟨by
        have := HI.out.1
        rw [List.take_of_length_le (by have := HN.out; omega)] at this
        rw [HE.out]; exact this, HI.out.2⟩
      clear HI HL HR HX HE HN
      go_wp2
      go_end0
      exact ⟨rfl, HZ.out⟩
end
end Go.Proofs.YtpefbmheblfbeaaGreat.Sn
/- The contract of the program's others: the entries that an old memo has not, or has otherwise; no conditions but that both are memos. -/
namespace Go.Proofs.YtpefbmheblfbeaaGreat.Sn
open Go.RowKit Go.Sort Go.Shelf Me
set_option linter.unusedVariables false
set_option linter.unusedSimpArgs false
theorem infoAK : (Tryz.prog.info? 60).map (fun i => (i.zero, i.size, i.bytes)) = some (some (.agg #[.int .u16 0, .string ⟨#[]⟩, .int .i64 0, .int .i64 0, .int .i64 0, .int .i64 0, .int .i64 0]), 7, 64) := by kernel_rfl
theorem cellsN_l7 : ∀ (xs : List En), (cellsN xs).length = xs.length * 7
  | [] => rfl
  | x :: xs => by
    have q := cellsN_l7 xs
    rw [show x :: xs = [x] ++ xs from rfl, cellsN_app, cellsN_one, List.length_append, q, List.length_append]
    simp [nl]
    omega
def sameB (v u : V) : Bool := decide (v = u)
theorem neqN (w : World) (sp : Int) (nm : ByteArray) (v u : V) : (binOp .neq 60 (.agg #[.int .u16 sp, .string nm, .int .i64 v.1.1, .int .i64 v.1.2.1, .int .i64 v.1.2.2.1, .int .i64 v.1.2.2.2, .int .i64 v.2]) (.agg #[.int .u16 sp, .string nm, .int .i64 u.1.1, .int .i64 u.1.2.1, .int .i64 u.1.2.2.1, .int .i64 u.1.2.2.2, .int .i64 u.2])).run Tryz.prog w = .ok (.bool (!sameB v u)) w := by
  obtain ⟨⟨a0, a1, a2, a3⟩, a4⟩ := v
  obtain ⟨⟨b0, b1, b2, b3⟩, b4⟩ := u
  unfold sameB
  by_cases h0 : a0 = b0
  · subst h0
    by_cases h1 : a1 = b1
    · subst h1
      by_cases h2 : a2 = b2
      · subst h2
        by_cases h3 : a3 = b3
        · subst h3
          by_cases h4 : a4 = b4
          · subst h4
            go_simp
          · go_simp
        · go_simp
      · go_simp
    · go_simp
  · go_simp
def othB (ys : List En) (x : En) : Bool := match fnd ys x.1 with
  | some v => !sameB v x.2
  | none => true
def othL (ys xs : List En) : List En := xs.filter (othB ys)
theorem othL_snoc {ys xs : List En} {p : Nat} (h : p < xs.length) : othL ys (xs.take (p + 1)) = othL ys (xs.take p) ++ (if othB ys xs[p] = true then [xs[p]] else []) := by
  unfold othL
  rw [List.take_succ_eq_append_getElem h, List.filter_append]
  congr 1
  cases hb : othB ys xs[p] <;> simp [hb]
theorem othL_len (ys xs : List En) : (othL ys xs).length ≤ xs.length := List.length_filter_le _ _
set_option maxRecDepth 20000 in
set_option maxHeartbeats 8000000 in
theorem others_ {w : World} {m0 m : Nat} {F0 F : List Nat} {c0 c : Cf} {now0 now : Int} {ys xs : List En} (h0 : Mq w m0 F0 c0 now0 ys) (h : Mq w m F c now xs) : Calls Tryz.prog 59 #[PT m0, PT m] w fun e w' => ∃ u, e = .returned u ∧ w'.ownsRow w.heap.size 60 7 u (othL ys xs).length (cellsN (othL ys xs)) ∧ Touch [] w w' := by
  have hl : xs.length ≤ 65536 := by obtain ⟨b, o, G, _, hb⟩ := id h; exact hb.len
  have HOK : Hid (∀ k ∈ keysL xs, Ok k) := by obtain ⟨b, o, G, _, hb⟩ := id h; exact hid hb.ok
  have HAL := hid (allM w m F c now xs h)
  have HGT := hid (fun w' (t : Touch [] w w') k (hk : Ok k) => getM w' m0 F0 c0 now0 ys (h0.keep0 t) k hk)
  clear h h0
  obtain ⟨n, hn⟩ : ∃ n, n = xs.length := ⟨_, rfl⟩
  have HN := hid hn
  have HNL : Hid (n ≤ 65536) := hid (by omega)
  clear hn hl
  unfold PT at *
  go_enter Tryz.func59, Tryz.ntmps59
  go_wp2_with (go_at_call 38; refine HAL.out.mono ?_; rintro e w2 ⟨v2, rfl, hq2⟩; obtain ⟨a2, c2, e2⟩ := own_form hq2.1; subst e2; have HQ2 := hid hq2; clear hq2; rw [← HN.out])
  clear HAL
  go_loopw [5, 13] (fun s3 si wr => ∃ (i : Nat) (b : Option Addr) (q cp : Nat), si = .int .i64 i ∧ i ≤ n ∧ s3 = .slice b q cp ∧ q ≤ i ∧ Hid (Touch [] w2 wr ∧ wr.ownsRow w2.heap.size 60 7 (.slice b q cp) q (cellsN (othL ys (xs.take i))))) (fun _ si _ => n - (intOf si).toNat)
  case atStart => exact ⟨0, none, 0, 0, rfl, Nat.zero_le _, rfl, Nat.le_refl _, hid ⟨Touch.refl _ _, by simp [cellsN, othL], Or.inl ⟨rfl, rfl⟩⟩⟩
  case round =>
    obtain ⟨i, b, q, cp, rfl, hi, rfl, hqi, HI⟩ := hrel
    obtain ⟨wo, hwo⟩ : ∃ wo, wo = wr := ⟨_, rfl⟩
    rw [← hwo] at HI ⊢
    clear hwo wr
    have hnl := HNL.out
    by_cases hlt : i < n
    · have hz : (i : Int) < (n : Int) := by omega
      have hix : i < xs.length := by rw [← HN.out]; exact hlt
      obtain ⟨g2, o2, rfl, k0, k1, k2, k3, k4, k5, k6⟩ := own7_cell (own_touch HQ2.out.1 HI.out.1 (fun _ _ e => by cases e)) hix
      have HTK := hid (othL_snoc (ys := ys) hix)
      have hok := HOK.out xs[i].1 (by unfold keysL; exact List.mem_map_of_mem (List.getElem_mem hix))
      have HGk := hid (fun w' (t : Touch [] wo w') => HGT.out w' ((HQ2.out.2.trans' HI.out.1).trans' t) xs[i].1 hok)
      generalize xs[i] = x at *
      clear hok
      obtain ⟨W1, hW1⟩ : ∃ W1, W1 = wo.alloc (.cells #[.int .u16 x.1.1, .string x.1.2, .int .i64 x.2.1.1, .int .i64 x.2.1.2.1, .int .i64 x.2.1.2.2.1, .int .i64 x.2.1.2.2.2, .int .i64 x.2.2] 60) := ⟨_, rfl⟩
      have tW : Touch [] wo W1 := by rw [hW1]; exact (Touch.refl _ _).alloc _
      have hbx : W1.heap[wo.heap.size]? = some (.cells #[.int .u16 x.1.1, .string x.1.2, .int .i64 x.2.1.1, .int .i64 x.2.1.2.1, .int .i64 x.2.1.2.2.1, .int .i64 x.2.1.2.2.2, .int .i64 x.2.2] 60 (0, 0)) := by rw [hW1]; exact heap_alloc_new wo _
      have HBX := hid hbx
      have x0 := cell_of (n := 0) hbx rfl
      have x1 := cell_of (n := 1) hbx rfl
      have HTW := hid tW
      have HLT := hid (And.intro hi hlt)
      have hqn : q ≤ 65536 := by omega
      have HQN := hid hqn
      have HA : Hid (∀ w5, Touch [] W1 w5 → w5.ownsRow w2.heap.size 60 7 (.slice b q cp) q (cellsN (othL ys (xs.take i))) ∧ w2.heap.size ≤ w5.heap.size ∧ Touch [] w2 w5) := hid (fun w5 t5 => ⟨own_touch HI.out.2 (tW.trans' t5) (fun _ _ e => by cases e), (HI.out.1.trans' (tW.trans' t5)).size, HI.out.1.trans' (tW.trans' t5)⟩)
      have HQI := hid hqi
      clear hbx tW hix HI hqn
      have HGk1 := hid (HGk.out W1 HTW.out)
      have HCL : Hid (∀ L L' : List En, L = L' → cellsN L = cellsN L') := hid (fun L L' e => by rw [e])
      cases hf : fnd ys x.1 with
      | none =>
        have hb : othB ys x = true := by unfold othB; rw [hf]
        have HT2 : Hid (cellsN (othL ys (xs.take (i + 1))) = cellsN (othL ys (xs.take i)) ++ nl x) := hid (by rw [HTK.out, if_pos hb, cellsN_app, cellsN_one])
        have hg : getS ys x.1 = (nvz, false) := by unfold getS; rw [hf]
        rw [hg] at HGk1
        clear HGk HTK hf hb hg HCL
        generalize cellsN (othL ys (xs.take i)) = vs at *
        unfold kv nvz at HGk1
        go_upto_region 5 with fail
        rw [← hW1]
        clear hW1 k0 k1 k2 k3 k4 k5 k6
        go_upto_region 7 with (go_at_call 90; refine HGk1.out.mono ?_; rintro e w3 ⟨rfl, t3⟩; have T3 := hid t3; clear t3 x0 x1)
        obtain ⟨W4, hW4⟩ : ∃ W4, W4 = w3.alloc (.cells #[.int .u16 0, .string ⟨#[]⟩, .int .i64 0, .int .i64 0, .int .i64 0, .int .i64 0, .int .i64 0] 60) := ⟨_, rfl⟩
        have T4 : Hid (Touch [] W1 W4) := hid (T3.out.trans' (by rw [hW4]; exact (Touch.refl _ _).alloc _))
        have hb4 := T4.out.keep HBX.out (by simp)
        rw [← hW4]
        clear hW4
        have y0 := cell_of (n := 0) hb4 rfl
        have y1 := cell_of (n := 1) hb4 rfl
        have y2 := cell_of (n := 2) hb4 rfl
        have y3 := cell_of (n := 3) hb4 rfl
        have y4 := cell_of (n := 4) hb4 rfl
        have y5 := cell_of (n := 5) hb4 rfl
        have y6 := cell_of (n := 6) hb4 rfl
        clear hb4
        go_wp2_with (at_builtin; refine wpList_append_rs rfl _ _ 24 60 rfl _ 7 64 infoAK Tryz.underlying24 rfl (by decide) w2.heap.size (.slice b q cp) q vs rfl (HA.out _ (T4.out.alloc _)).1 (.slice (some ⟨W4.heap.size, 0, none⟩) 1 1) 1 _ rfl (Rs.new W4 #[.int .u16 x.1.1, .string x.1.2, .int .i64 x.2.1.1, .int .i64 x.2.1.2.1, .int .i64 x.2.1.2.2.1, .int .i64 x.2.1.2.2.2, .int .i64 x.2.2] 60 7 rfl) (by simp [Value.oneCell']) (by unfold maxLen; have := HQN.out; omega) (by have := HQN.out; omega) (HA.out _ (T4.out.alloc _)).2.1 ?_; intro v6 w6 o6 g6 _; obtain ⟨a6, c6, e6, _⟩ := (Rs.of_own o6).form; subst e6; have O6 := hid o6; have T6 := hid (touch_grown (HA.out _ (T4.out.alloc _)).2.2 g6 (HA.out _ (T4.out.alloc _)).1 (Nat.le_refl _)); clear o6 g6)
        go_roundw
        case rel => exact ⟨i + 1, a6, q + 1, c6, by go_num, by have := HLT.out; omega, rfl, by have := HQI.out; omega, hid ⟨T6.out, by rw [HT2.out]; exact O6.out⟩⟩
        case measure => simp [intOf]; have := HLT.out; omega
      | some v =>
        have hg : getS ys x.1 = (nv (x.1, v), true) := by unfold getS; rw [hf]
        rw [hg] at HGk1
        have hbb : othB ys x = !sameB v x.2 := by unfold othB; rw [hf]
        cases hs : sameB v x.2 with
        | false =>
          have hb : othB ys x = true := by rw [hbb, hs]; rfl
          have HT2 : Hid (cellsN (othL ys (xs.take (i + 1))) = cellsN (othL ys (xs.take i)) ++ nl x) := hid (by rw [HTK.out, if_pos hb, cellsN_app, cellsN_one])
          have hne : ∀ w', (binOp .neq 60 (.agg #[.int .u16 x.1.1, .string x.1.2, .int .i64 v.1.1, .int .i64 v.1.2.1, .int .i64 v.1.2.2.1, .int .i64 v.1.2.2.2, .int .i64 v.2]) (.agg #[.int .u16 x.1.1, .string x.1.2, .int .i64 x.2.1.1, .int .i64 x.2.1.2.1, .int .i64 x.2.1.2.2.1, .int .i64 x.2.1.2.2.2, .int .i64 x.2.2])).run Tryz.prog w' = .ok (.bool true) w' := fun w' => by rw [neqN, hs]; rfl
          clear HGk HTK hf hb hg HCL hbb hs
          generalize cellsN (othL ys (xs.take i)) = vs at *
          unfold kv nv at HGk1
          go_upto_region 5 with fail
          rw [← hW1]
          clear hW1 k0 k1 k2 k3 k4 k5 k6
          go_upto_region 6 with (go_at_call 90; refine HGk1.out.mono ?_; rintro e w3 ⟨rfl, t3⟩; have T3 := hid t3; clear t3 x0 x1)
          obtain ⟨W4, hW4⟩ : ∃ W4, W4 = w3.alloc (.cells #[.int .u16 x.1.1, .string x.1.2, .int .i64 v.1.1, .int .i64 v.1.2.1, .int .i64 v.1.2.2.1, .int .i64 v.1.2.2.2, .int .i64 v.2] 60) := ⟨_, rfl⟩
          have T4 : Hid (Touch [] W1 W4) := hid (T3.out.trans' (by rw [hW4]; exact (Touch.refl _ _).alloc _))
          have h9 : W4.heap[w3.heap.size]? = some (.cells #[.int .u16 x.1.1, .string x.1.2, .int .i64 v.1.1, .int .i64 v.1.2.1, .int .i64 v.1.2.2.1, .int .i64 v.1.2.2.2, .int .i64 v.2] 60 (0, 0)) := by rw [hW4]; exact heap_alloc_new w3 _
          have hb4 := T4.out.keep HBX.out (by simp)
          rw [← hW4]
          clear hW4
          have z0 := cell_of (n := 0) h9 rfl
          have z1 := cell_of (n := 1) h9 rfl
          have z2 := cell_of (n := 2) h9 rfl
          have z3 := cell_of (n := 3) h9 rfl
          have z4 := cell_of (n := 4) h9 rfl
          have z5 := cell_of (n := 5) h9 rfl
          have z6 := cell_of (n := 6) h9 rfl
          have y0 := cell_of (n := 0) hb4 rfl
          have y1 := cell_of (n := 1) hb4 rfl
          have y2 := cell_of (n := 2) hb4 rfl
          have y3 := cell_of (n := 3) hb4 rfl
          have y4 := cell_of (n := 4) hb4 rfl
          have y5 := cell_of (n := 5) hb4 rfl
          have y6 := cell_of (n := 6) hb4 rfl
          clear h9
          go_upto_region 7 with fail
          clear hne z0 z1 z2 z3 z4 z5 z6
          clear hb4
          go_wp2_with (at_builtin; refine wpList_append_rs rfl _ _ 24 60 rfl _ 7 64 infoAK Tryz.underlying24 rfl (by decide) w2.heap.size (.slice b q cp) q vs rfl (HA.out _ (T4.out.alloc _)).1 (.slice (some ⟨W4.heap.size, 0, none⟩) 1 1) 1 _ rfl (Rs.new W4 #[.int .u16 x.1.1, .string x.1.2, .int .i64 x.2.1.1, .int .i64 x.2.1.2.1, .int .i64 x.2.1.2.2.1, .int .i64 x.2.1.2.2.2, .int .i64 x.2.2] 60 7 rfl) (by simp [Value.oneCell']) (by unfold maxLen; have := HQN.out; omega) (by have := HQN.out; omega) (HA.out _ (T4.out.alloc _)).2.1 ?_; intro v6 w6 o6 g6 _; obtain ⟨a6, c6, e6, _⟩ := (Rs.of_own o6).form; subst e6; have O6 := hid o6; have T6 := hid (touch_grown (HA.out _ (T4.out.alloc _)).2.2 g6 (HA.out _ (T4.out.alloc _)).1 (Nat.le_refl _)); clear o6 g6)
          go_roundw
          case rel => exact ⟨i + 1, a6, q + 1, c6, by go_num, by have := HLT.out; omega, rfl, by have := HQI.out; omega, hid ⟨T6.out, by rw [HT2.out]; exact O6.out⟩⟩
          case measure => simp [intOf]; have := HLT.out; omega
        | true =>
          have hb : othB ys x = false := by rw [hbb, hs]; rfl
          have HT2 : Hid (cellsN (othL ys (xs.take (i + 1))) = cellsN (othL ys (xs.take i))) := hid (by rw [HTK.out, if_neg (by rw [hb]; simp), List.append_nil])
          have hne : ∀ w', (binOp .neq 60 (.agg #[.int .u16 x.1.1, .string x.1.2, .int .i64 v.1.1, .int .i64 v.1.2.1, .int .i64 v.1.2.2.1, .int .i64 v.1.2.2.2, .int .i64 v.2]) (.agg #[.int .u16 x.1.1, .string x.1.2, .int .i64 x.2.1.1, .int .i64 x.2.1.2.1, .int .i64 x.2.1.2.2.1, .int .i64 x.2.1.2.2.2, .int .i64 x.2.2])).run Tryz.prog w' = .ok (.bool false) w' := fun w' => by rw [neqN, hs]; rfl
          clear HGk HTK hf hb hg HCL hbb hs
          generalize cellsN (othL ys (xs.take i)) = vs at *
          unfold kv nv at HGk1
          go_upto_region 5 with fail
          rw [← hW1]
          clear hW1 k0 k1 k2 k3 k4 k5 k6
          go_upto_region 6 with (go_at_call 90; refine HGk1.out.mono ?_; rintro e w3 ⟨rfl, t3⟩; have T3 := hid t3; clear t3 x0 x1)
          obtain ⟨W4, hW4⟩ : ∃ W4, W4 = w3.alloc (.cells #[.int .u16 x.1.1, .string x.1.2, .int .i64 v.1.1, .int .i64 v.1.2.1, .int .i64 v.1.2.2.1, .int .i64 v.1.2.2.2, .int .i64 v.2] 60) := ⟨_, rfl⟩
          have T4 : Hid (Touch [] W1 W4) := hid (T3.out.trans' (by rw [hW4]; exact (Touch.refl _ _).alloc _))
          have h9 : W4.heap[w3.heap.size]? = some (.cells #[.int .u16 x.1.1, .string x.1.2, .int .i64 v.1.1, .int .i64 v.1.2.1, .int .i64 v.1.2.2.1, .int .i64 v.1.2.2.2, .int .i64 v.2] 60 (0, 0)) := by rw [hW4]; exact heap_alloc_new w3 _
          have hb4 := T4.out.keep HBX.out (by simp)
          rw [← hW4]
          clear hW4
          have z0 := cell_of (n := 0) h9 rfl
          have z1 := cell_of (n := 1) h9 rfl
          have z2 := cell_of (n := 2) h9 rfl
          have z3 := cell_of (n := 3) h9 rfl
          have z4 := cell_of (n := 4) h9 rfl
          have z5 := cell_of (n := 5) h9 rfl
          have z6 := cell_of (n := 6) h9 rfl
          have y0 := cell_of (n := 0) hb4 rfl
          have y1 := cell_of (n := 1) hb4 rfl
          have y2 := cell_of (n := 2) hb4 rfl
          have y3 := cell_of (n := 3) hb4 rfl
          have y4 := cell_of (n := 4) hb4 rfl
          have y5 := cell_of (n := 5) hb4 rfl
          have y6 := cell_of (n := 6) hb4 rfl
          clear h9
          go_wp2_with fail
          go_roundw
          case rel => exact ⟨i + 1, b, q, cp, by go_num, by have := HLT.out; omega, rfl, by have := HQI.out; omega, hid ⟨(HA.out _ T4.out).2.2, by rw [HT2.out]; exact (HA.out _ T4.out).1⟩⟩
          case measure => simp [intOf]; have := HLT.out; omega
    · have hz : ¬ (i : Int) < (n : Int) := by omega
      have HZ : Hid (wo.ownsRow w.heap.size 60 7 (.slice b q cp) (othL ys xs).length (cellsN (othL ys xs)) ∧ Touch [] w wo) := hid (by
        have e : i = xs.length := by have := HN.out; omega
        have z := HI.out.2
        rw [List.take_of_length_le (by omega)] at z
        have hq : q = (othL ys xs).length := by
          have h1 := z.1
          have h2 : (cellsN (othL ys xs)).length = (othL ys xs).length * 7 := by
            exact cellsN_l7 _
          omega
        rw [hq] at z ⊢
        exact ⟨own_base z HQ2.out.2.size, HQ2.out.2.trans' HI.out.1⟩)
      clear HI
      go_wp2
      go_ret
      exact ⟨_, rfl, HZ.out⟩
end Go.Proofs.YtpefbmheblfbeaaGreat.Sn
/- The order of keys, the program's comparison, and rows of keys that a call owns; no conditions. -/
namespace Go.Proofs
open Go.Shelf
def Tryz.lays106_ren : Go.Shelf.Ren := ⟨fun | 106 => 149 | 213 => 157 | 265 => 161 | n => n, fun | 9 => 9 | 3 => 3 | n => n, fun | n => n⟩
theorem Tryz.lays106 : Go.Proofs.Lays.n106 Tryz.prog Tryz.lays106_ren := {
  mixed := by kernel_rfl
  f106 := Tryz.func149.trans (congrArg some (by kernel_rfl))
  f213 := Tryz.func157.trans (congrArg some (by kernel_rfl))
  f265 := Tryz.func161.trans (congrArg some (by kernel_rfl))
  t3 := Tryz.underlying3
  a3 := Tryz.isAgg3
  z3 := Tryz.sizeOf3
  v3 := Tryz.zeroValue3
  t9 := Tryz.underlying9
  a9 := Tryz.isAgg9
  z9 := Tryz.sizeOf9
  v9 := Tryz.zeroValue9 }
open Go.RowKit in
theorem Tryz.strings_Compare (a b : ByteArray) (w : World) :
    Calls Tryz.prog 149 #[.string a, .string b] w fun e w' => e = .returned (.int .i64 (Lib.compareBytes a.data.toList b.data.toList)) ∧ w' = w := Any.strings_Compare Tryz.lays106 a b w
end Go.Proofs
namespace Go.Proofs.YtpefbmheblfbeaaGreat.So
open Go.RowKit Go.Sort Go.Shelf Me
set_option linter.unusedVariables false
def cmpK (a : Int) (s : ByteArray) (b : Int) (t : ByteArray) : Int := if a < b then -1 else if b < a then 1 else Lib.compareBytes s.data.toList t.data.toList
theorem cb_neg : ∀ (a b : List UInt8), Lib.compareBytes b a = - Lib.compareBytes a b
  | [], [] => by simp [Lib.compareBytes]
  | [], _ :: _ => by simp [Lib.compareBytes]
  | _ :: _, [] => by simp [Lib.compareBytes]
  | x :: a, y :: b => by
    have ih := cb_neg a b
    simp only [Lib.compareBytes]
    by_cases h1 : x < y
    · have h2 : ¬ y < x := by rw [UInt8.lt_iff_toNat_lt] at *; omega
      simp [h1, h2]
    · by_cases h2 : y < x
      · simp [h1, h2]
      · simp [h1, h2, ih]
theorem cb_self (a : List UInt8) : Lib.compareBytes a a = 0 := by
  have := cb_neg a a
  omega
theorem cb_trans : ∀ (a b c : List UInt8), Lib.compareBytes a b ≤ 0 → Lib.compareBytes b c ≤ 0 → Lib.compareBytes a c ≤ 0
  | [], _, [], _, _ => by simp [Lib.compareBytes]
  | [], _, _ :: _, _, _ => by simp [Lib.compareBytes]
  | _ :: _, [], _, h, _ => by simp [Lib.compareBytes] at h
  | _ :: _, _ :: _, [], _, h => by simp [Lib.compareBytes] at h
  | x :: a, y :: b, z :: c, h1, h2 => by
    simp only [Lib.compareBytes, UInt8.lt_iff_toNat_lt] at *
    by_cases p1 : x.toNat < y.toNat
    · by_cases p2 : y.toNat < z.toNat
      · rw [if_pos (by omega)]; omega
      · by_cases p3 : z.toNat < y.toNat
        · simp [p2, p3] at h2
        · rw [if_pos (by omega)]; omega
    · by_cases p1' : y.toNat < x.toNat
      · simp [p1, p1'] at h1
      · simp [p1, p1'] at h1
        by_cases p2 : y.toNat < z.toNat
        · rw [if_pos (by omega)]; omega
        · by_cases p3 : z.toNat < y.toNat
          · simp [p2, p3] at h2
          · simp [p2, p3] at h2
            rw [if_neg (by omega), if_neg (by omega)]
            exact cb_trans a b c h1 h2
theorem cmpK_neg (a b : Int) (s t : ByteArray) : cmpK b t a s = - cmpK a s b t := by
  unfold cmpK
  by_cases h1 : a < b
  · have h2 : ¬ b < a := by omega
    simp [h1, h2]
  · by_cases h2 : b < a
    · simp [h1, h2]
    · simp [h1, h2, cb_neg s.data.toList t.data.toList]
theorem cmpK_self (a : Int) (s : ByteArray) : cmpK a s a s = 0 := by simp [cmpK, cb_self]
theorem cmpK_trans (a b c : Int) (s t u : ByteArray) (h1 : cmpK a s b t ≤ 0) (h2 : cmpK b t c u ≤ 0) : cmpK a s c u ≤ 0 := by
  unfold cmpK at *
  by_cases p1 : a < b
  · by_cases p2 : b < c
    · rw [if_pos (by omega)]; omega
    · by_cases p3 : c < b
      · simp [p2, p3] at h2
      · rw [if_pos (by omega)]; omega
  · by_cases p1' : b < a
    · simp [p1, p1'] at h1
    · simp [p1, p1'] at h1
      by_cases p2 : b < c
      · rw [if_pos (by omega)]; omega
      · by_cases p3 : c < b
        · simp [p2, p3] at h2
        · simp [p2, p3] at h2
          rw [if_neg (by omega), if_neg (by omega)]
          exact cb_trans _ _ _ h1 h2
def leK (a b : K) : Prop := cmpK a.1 a.2 b.1 b.2 ≤ 0
theorem leK_trans {a b c : K} (h : leK a b) (k : leK b c) : leK a c := cmpK_trans _ _ _ _ _ _ h k
theorem leK_of_not {a b : K} (h : ¬ cmpK a.1 a.2 b.1 b.2 < 0) : leK b a := by
  unfold leK
  rw [cmpK_neg]
  omega
theorem leK_of_lt {a b : K} (h : cmpK a.1 a.2 b.1 b.2 < 0) : leK a b := by
  unfold leK
  omega
theorem leK_refl (a : K) : leK a a := by unfold leK; rw [cmpK_self]; omega
def Gr (w w' : World) : Prop := ∃ q os, w' = grow (w.drewN q) os
theorem Gr.refl (w : World) : Gr w w := ⟨0, #[], by rw [grow_empty]; rfl⟩
theorem Gr.alloc {w w' : World} (h : Gr w w') (o : Obj) : Gr w (w'.alloc o) := by
  obtain ⟨q, os, rfl⟩ := h
  exact ⟨q, os ++ #[o], by rw [alloc_eq_grow, grow_grow]⟩
theorem Gr.grow {w w' : World} (h : Gr w w') (n : Nat) (os' : Array Obj) : Gr w (grow (w'.drewN n) os') := by
  obtain ⟨q, os, rfl⟩ := h
  exact ⟨q + n, os ++ os', by show Sort.grow (Sort.grow ((w.drewN q).drewN n) os) os' = _; rw [grow_grow, World.drewN_drewN]⟩
theorem Gr.drewN {w w' : World} (h : Gr w w') (n : Nat) : Gr w (w'.drewN n) := by
  have := h.grow n #[]
  rwa [grow_empty] at this
theorem Gr.drew {w w' : World} (h : Gr w w') : Gr w w'.drew := h.drewN 1
def cmpI (a b : Int) : Int := if a < b then -1 else if b < a then 1 else 0
theorem cmpI_ (a b : Int) (w : World) : Calls Tryz.prog 148 #[.int .u16 a, .int .u16 b] w fun e w' => e = .returned (.int .i64 (cmpI a b)) ∧ w' = w := by
  rcases Int.lt_trichotomy a b with h | h | h
  · go_enter Tryz.func148, Tryz.ntmps148
    go_wp2
    go_ret
    exact ⟨by simp [cmpI, h], rfl⟩
  · subst h
    go_enter Tryz.func148, Tryz.ntmps148
    go_wp2
    go_ret
    exact ⟨by simp [cmpI], rfl⟩
  · have h' : ¬ a < b := by omega
    go_enter Tryz.func148, Tryz.ntmps148
    go_wp2
    go_ret
    exact ⟨by simp [cmpI, h, h'], rfl⟩
theorem kcmp_ (a b : Int) (s t : ByteArray) (w : World) :
    Calls Tryz.prog 134 #[.agg #[.int .u16 a, .string s], .agg #[.int .u16 b, .string t]] w fun e w' => e = .returned (.int .i64 (cmpK a s b t)) ∧ Gr w w' := by
  rcases Int.lt_trichotomy a b with h | h | h
  · have hc : cmpI a b = -1 := by simp [cmpI, h]
    go_enter Tryz.func134, Tryz.ntmps134
    go_wp2_with (go_at_call 148; refine (cmpI_ _ _ _).mono ?_; rintro e w' ⟨rfl, rfl⟩)
    go_ret
    exact ⟨by simp [cmpK, h], ((Gr.refl _).alloc _).alloc _⟩
  · subst h
    have hc : cmpI a a = 0 := by simp [cmpI]
    go_enter Tryz.func134, Tryz.ntmps134
    go_wp2_with (first | (go_at_call 148; refine (cmpI_ _ _ _).mono ?_; rintro e w' ⟨rfl, rfl⟩) | (go_at_call 149; refine (Tryz.strings_Compare _ _ _).mono ?_; rintro e w' ⟨rfl, rfl⟩))
    go_ret
    exact ⟨by simp [cmpK], ((Gr.refl _).alloc _).alloc _⟩
  · have h' : ¬ a < b := by omega
    have hc : cmpI a b = 1 := by simp [cmpI, h, h']
    go_enter Tryz.func134, Tryz.ntmps134
    go_wp2_with (go_at_call 148; refine (cmpI_ _ _ _).mono ?_; rintro e w' ⟨rfl, rfl⟩)
    go_ret
    exact ⟨by simp [cmpK, h, h'], ((Gr.refl _).alloc _).alloc _⟩
theorem Gr.below {w w' : World} (h : Gr w w') : Below w.heap.size w w' := by
  obtain ⟨q, os, rfl⟩ := h
  exact ⟨rfl, rfl, rfl, by rw [size_grow]; exact Nat.le_add_right _ _, fun k hk => heap_grow_old _ _ hk⟩
theorem Gr.cell {w w' : World} (hg : Gr w w') {a : Addr} {v : Value} (h : w.cell? a = some v) (hb : a.block < w.heap.size) : w'.cell? a = some v := by
  rw [hg.below.cell hb]; exact h
theorem gr_grow (w : World) (n : Nat) (os : Array Obj) : Gr w (grow (w.drewN n) os) := ⟨n, os, rfl⟩
theorem cellsK_set : ∀ (L : List K) (i : Nat) (x : K), i < L.length → Me.cellsK (L.set i x) = ((Me.cellsK L).set (i * 2) (.int .u16 x.1)).set (i * 2 + 1) (.string x.2)
  | a :: L, 0, x, _ => rfl
  | a :: L, i + 1, x, h => by
    have ih := cellsK_set L i x (by simpa using h)
    rw [List.set_cons_succ, show a :: L.set i x = [a] ++ L.set i x from rfl, show a :: L = [a] ++ L from rfl, cellsK_app, cellsK_app, ih, cellsK_one]
    rw [show (i + 1) * 2 = i * 2 + 1 + 1 by omega, show i * 2 + 1 + 1 + 1 = (i * 2 + 1) + 1 + 1 by omega]
    rfl
theorem owns_block {w : World} {base e g c n : Nat} {xs : List Value} (h : w.ownsRow base e 2 (.slice (some ⟨g, 0, none⟩) n c) n xs) :
    ∃ cur, w.heap[g]? = some (.cells cur e (0, 0)) ∧ n ≤ c ∧ c ≤ maxLen ∧ cur.size = c * 2 ∧ cur.toList.take (n * 2) = xs ∧ base ≤ g ∧ xs.length = n * 2 := by
  obtain ⟨h1, h2 | ⟨g', cap', cur, hv, hg, hc, hn, hm, hs, ht⟩⟩ := h
  · cases h2.1
  · simp only [Value.slice.injEq, Option.some.injEq, Addr.mk.injEq, and_true, true_and] at hv
    obtain ⟨rfl, rfl⟩ := hv
    exact ⟨cur, hc, hn, hm, hs, ht, hg, h1⟩
theorem owns_at {w : World} {base e g c : Nat} {L : List K} (h : w.ownsRow base e 2 (.slice (some ⟨g, 0, none⟩) L.length c) L.length (Me.cellsK L)) (i : Nat) (hi : i < L.length) :
    w.cell? ⟨g, i * 2, none⟩ = some (.int .u16 L[i].1) ∧ w.cell? ⟨g, i * 2 + 1, none⟩ = some (.string L[i].2) ∧ w.frozen? ⟨g, i * 2, none⟩ = false ∧ w.frozen? ⟨g, i * 2 + 1, none⟩ = false := by
  obtain ⟨cur, hc, hn, hm, hs, ht, hg, hl⟩ := owns_block h
  have hcell : ∀ j, w.cell? ⟨g, j, none⟩ = cur[j]? := fun j => by simp [World.cell?, hc]
  have hj : ∀ j, j < L.length * 2 → cur[j]? = (Me.cellsK L)[j]? := fun j hj => by
    rw [← ht, List.getElem?_take_of_lt hj, Array.getElem?_toList]
  refine ⟨?_, ?_, Joins.unfrozen_of_block hc _, Joins.unfrozen_of_block hc _⟩
  · rw [hcell, hj _ (by omega), cellsK_at0 L i hi]
  · rw [hcell, hj _ (by omega), cellsK_at1 L i hi]
theorem owns_below {w w' : World} {base e size n : Nat} {v : Value} {xs : List Value} (h : w.ownsRow base e size v n xs) (hb : Below w.heap.size w w') : w'.ownsRow base e size v n xs := by
  obtain ⟨h1, h2⟩ := h
  refine ⟨h1, ?_⟩
  rcases h2 with h2 | ⟨g, cap, cur, hv, hg, hc, r⟩
  · exact Or.inl h2
  · refine Or.inr ⟨g, cap, cur, hv, hg, ?_, r⟩
    rw [hb.block g (by
      rcases Nat.lt_or_ge g w.heap.size with h | h
      · exact h
      · rw [Array.getElem?_eq_none h] at hc; cases hc)]
    exact hc
theorem owns_set {w : World} {base e g c : Nat} {L : List K} (h : w.ownsRow base e 2 (.slice (some ⟨g, 0, none⟩) L.length c) L.length (Me.cellsK L)) (i : Nat) (hi : i < L.length) (x : Int) (y : ByteArray) :
    ((w.setCell ⟨g, i * 2, none⟩ (.int .u16 x)).setCell ⟨g, i * 2 + 1, none⟩ (.string y)).ownsRow base e 2 (.slice (some ⟨g, 0, none⟩) (L.set i (x, y)).length c) (L.set i (x, y)).length (Me.cellsK (L.set i (x, y))) := by
  obtain ⟨cur, hc, hn, hm, hs, ht, hg, hl⟩ := owns_block h
  rw [List.length_set]
  refine ⟨by rw [cellsK_len, List.length_set], Or.inr ⟨g, c, (cur.setIfInBounds (i * 2) (.int .u16 x)).setIfInBounds (i * 2 + 1) (.string y), rfl, hg, ?_, hn, hm, by simp [hs], ?_⟩⟩
  · exact Joins.block_setCell (Joins.block_setCell hc _) _
  · rw [Array.toList_setIfInBounds, Array.toList_setIfInBounds, List.take_set, List.take_set, ht, cellsK_set L i (x, y) hi]
end Go.Proofs.YtpefbmheblfbeaaGreat.So
/- A row of keys that is sorted in place, and the contract of the library's exchange of two ranges; no conditions but that the indices are within the row. -/
namespace Go.Proofs.YtpefbmheblfbeaaGreat.So
open Go.RowKit Go.Sort Go.Shelf Me
set_option linter.unusedVariables false
structure RW (w0 : World) (g n c : Nat) (L : List K) (w : World) : Prop where
  own : w.ownsRow 0 54 2 (.slice (some ⟨g, 0, none⟩) n c) n (Me.cellsK L)
  len : L.length = n
  fr : w0.grownBy w (some g)
  lt : g < w0.heap.size
theorem RW.lt' {w0 w : World} {g n c : Nat} {L : List K} (h : RW w0 g n c L w) : g < w.heap.size := Nat.lt_of_lt_of_le h.lt h.fr.size
theorem gr_grown {w w' : World} (h : Gr w w') (r : Option Nat) : w.grownBy w' r := by
  have b := h.below
  exact ⟨b.os, b.tape, b.output, b.size, fun k hk _ => b.block k hk⟩
theorem grown_trans {a b c : World} {r : Option Nat} (h : a.grownBy b r) (k : b.grownBy c r) : a.grownBy c r :=
  ⟨k.os.trans h.os, k.tape.trans h.tape, k.output.trans h.output, Nat.le_trans h.size k.size, fun i hi hr => (k.block i (Nat.lt_of_lt_of_le hi h.size) hr).trans (h.block i hi hr)⟩
theorem RW.gr {w0 w w' : World} {g n c : Nat} {L : List K} (h : RW w0 g n c L w) (hg : Gr w w') : RW w0 g n c L w' :=
  ⟨owns_below h.own hg.below, h.len, grown_trans h.fr (gr_grown hg _), h.lt⟩
theorem RW.at {w0 w : World} {g n c : Nat} {L : List K} (h : RW w0 g n c L w) (i : Nat) (hi : i < L.length) :
    w.cell? ⟨g, i * 2, none⟩ = some (.int .u16 L[i].1) ∧ w.cell? ⟨g, i * 2 + 1, none⟩ = some (.string L[i].2) ∧ w.frozen? ⟨g, i * 2, none⟩ = false ∧ w.frozen? ⟨g, i * 2 + 1, none⟩ = false := by
  have ho := h.own
  rw [← h.len] at ho
  exact owns_at ho i hi
theorem RW.set {w0 w : World} {g n c : Nat} {L : List K} (h : RW w0 g n c L w) (i : Nat) (hi : i < L.length) (x : K) :
    RW w0 g n c (L.set i x) ((w.setCell ⟨g, i * 2, none⟩ (.int .u16 x.1)).setCell ⟨g, i * 2 + 1, none⟩ (.string x.2)) := by
  have ho := h.own
  rw [← h.len] at ho
  have := owns_set ho i hi x.1 x.2
  rw [List.length_set, h.len] at this
  refine ⟨this, by rw [List.length_set]; exact h.len, grown_trans h.fr ?_, h.lt⟩
  exact ⟨rfl, rfl, rfl, by simp [World.setCell], fun k _ hk => (Below.heap_setCell _ _ _ _ (fun e => hk (by rw [e]))).trans (Below.heap_setCell _ _ _ _ (fun e => hk (by rw [e])))⟩
def swL (L : List K) (i j : Nat) (hi : i < L.length) (hj : j < L.length) : List K := (L.set i L[j]).set j L[i]
theorem swL_len (L : List K) (i j : Nat) (hi : i < L.length) (hj : j < L.length) : (swL L i j hi hj).length = L.length := by unfold swL; simp
theorem swL_at (L : List K) (i j : Nat) (hi : i < L.length) (hj : j < L.length) (m : Nat) (hm : m < L.length) : (swL L i j hi hj)[m]'(by rw [swL_len]; exact hm) = if m = j then L[i] else if m = i then L[j] else L[m] := by
  unfold swL
  rw [List.getElem_set]
  by_cases h : j = m
  · rw [if_pos h, if_pos h.symm]
  · rw [if_neg h, if_neg (fun e => h e.symm), List.getElem_set]
    by_cases h' : i = m
    · rw [if_pos h', if_pos h'.symm]
    · rw [if_neg h', if_neg (fun e => h' e.symm)]
theorem RW.swap {w0 w : World} {g n c : Nat} {L : List K} (h : RW w0 g n c L w) (i j : Nat) (hi : i < L.length) (hj : j < L.length) :
    RW w0 g n c (swL L i j hi hj) ((((w.setCell ⟨g, i * 2, none⟩ (.int .u16 L[j].1)).setCell ⟨g, i * 2 + 1, none⟩ (.string L[j].2)).setCell ⟨g, j * 2, none⟩ (.int .u16 L[i].1)).setCell ⟨g, j * 2 + 1, none⟩ (.string L[i].2)) :=
  (h.set i hi L[j]).set j (by rw [List.length_set]; exact hj) L[i]
theorem swL_at? (L : List K) (i j : Nat) (hi : i < L.length) (hj : j < L.length) (m : Nat) : (swL L i j hi hj)[m]? = if m = j then L[i]? else if m = i then L[j]? else L[m]? := by
  by_cases hm : m < L.length
  · rw [List.getElem?_eq_getElem (by rw [swL_len]; exact hm), swL_at L i j hi hj m hm]
    by_cases h1 : m = j
    · rw [if_pos h1, if_pos h1, List.getElem?_eq_getElem hi]
    · rw [if_neg h1, if_neg h1]
      by_cases h2 : m = i
      · rw [if_pos h2, if_pos h2, List.getElem?_eq_getElem hj]
      · rw [if_neg h2, if_neg h2, List.getElem?_eq_getElem hm]
  · rw [List.getElem?_eq_none (by rw [swL_len]; omega), if_neg (by omega), if_neg (by omega), List.getElem?_eq_none (by omega)]
theorem swL_perm (L : List K) (i j : Nat) (hi : i < L.length) (hj : j < L.length) : (swL L i j hi hj).Perm L := by
  unfold swL
  by_cases e : i = j
  · subst e
    simp
  · exact (List.set_set_perm hi hj)
def cmpF : Value := .func (.func 134) #[] #[]
def SwapR (L : List K) (a b m : Nat) (L' : List K) : Prop := L'.Perm L ∧ ∀ t, L'[t]? = if a ≤ t ∧ t < a + m then L[b + (t - a)]? else if b ≤ t ∧ t < b + m then L[a + (t - b)]? else L[t]?
theorem swapR_zero (L : List K) (a b : Nat) : SwapR L a b 0 L := ⟨List.Perm.refl _, fun t => by rw [if_neg (by omega), if_neg (by omega)]⟩
theorem swapR_step (L Y : List K) (a b i : Nat) (h : SwapR L a b i Y) (hd : a + i < b) (h1 : a + i < Y.length) (h2 : b + i < Y.length) : SwapR L a b (i + 1) (swL Y (a + i) (b + i) h1 h2) := by
  refine ⟨(swL_perm _ _ _ _ _).trans h.1, fun t => ?_⟩
  rw [swL_at?, h.2, h.2, h.2]
  by_cases c1 : t = b + i
  · subst c1
    rw [if_pos rfl, if_neg (by omega), if_neg (by omega), if_neg (by omega), if_pos (by omega), show b + i - b = i by omega]
  · rw [if_neg c1]
    by_cases c2 : t = a + i
    · subst c2
      rw [if_pos rfl, if_neg (by omega), if_neg (by omega), if_pos (by omega), show a + i - a = i by omega]
    · rw [if_neg c2]
      by_cases c3 : a ≤ t ∧ t < a + i
      · rw [if_pos c3, if_pos (by omega)]
      · rw [if_neg c3]
        by_cases c4 : b ≤ t ∧ t < b + i
        · rw [if_pos c4, if_neg (by omega), if_pos (by omega)]
        · rw [if_neg c4, if_neg (by omega), if_neg (by omega)]
set_option maxHeartbeats 2000000 in
theorem swap64 (w0 : World) (g n c : Nat) (L : List K) (a b m : Nat) (hd : a + m ≤ b) (hb : b + m ≤ n) (w : World) (hn : n ≤ 5864062014634) (R : RW w0 g n c L w) :
    Calls Tryz.prog 163 #[.slice (some ⟨g, 0, none⟩) n c, .int .i64 a, .int .i64 b, .int .i64 m, cmpF] w fun e w' => e = .returned (.tuple #[]) ∧ ∃ L', SwapR L a b m L' ∧ RW w0 g n c L' w' := by
  unfold cmpF
  have HR : Hid (RW w0 g n c L w) := R
  clear R
  go_enter Tryz.func163, Tryz.ntmps163
  go_wp2
  go_loopw [10] (fun i wr => ∃ (k : Nat) (Y : List K), i = .int .i64 k ∧ k ≤ m ∧ Hid (SwapR L a b k Y) ∧ Hid (RW w0 g n c Y wr)) (fun i _ => m - (intOf i).toNat)
  case atStart => exact ⟨0, L, rfl, Nat.zero_le _, swapR_zero L a b, HR⟩
  case round =>
    obtain ⟨k, Y, rfl, hk, HS, HW⟩ := hrel
    by_cases hlt : k < m
    · have kz : (k : Int) < (m : Int) := by omega
      have hY := HW.out.len
      have h1 : a + k < Y.length := by omega
      have h2 : b + k < Y.length := by omega
      have HN : Hid _ := swapR_step L Y a b k HS.out (by omega) h1 h2
      have HX : Hid _ := HW.out.swap (a + k) (b + k) h1 h2
      obtain ⟨a0, a1, a2, a3⟩ := HW.out.at (a + k) h1
      obtain ⟨b0, b1, b2, b3⟩ := HW.out.at (b + k) h2
      have HL : Hid _ := (swL_len Y (a + k) (b + k) h1 h2)
      generalize swL Y (a + k) (b + k) h1 h2 = Y' at *
      generalize Y[a + k].1 = x1 at *
      generalize Y[a + k].2 = x2 at *
      generalize Y[b + k].1 = y1 at *
      generalize Y[b + k].2 = y2 at *
      obtain ⟨p, hp⟩ : ∃ p, p = a + k := ⟨_, rfl⟩
      obtain ⟨q, hq⟩ : ∃ q, q = b + k := ⟨_, rfl⟩
      have e1 : (a : Int) + (k : Int) = (p : Int) := by omega
      have e2 : (b : Int) + (k : Int) = (q : Int) := by omega
      rw [← hp] at a0 a1 a2 a3 HX
      rw [← hq] at b0 b1 b2 b3 HX
      have pz : (p : Int) < (n : Int) := by omega
      have qz : (q : Int) < (n : Int) := by omega
      have pz0 : (0 : Int) ≤ (p : Int) := by omega
      have qz0 : (0 : Int) ≤ (q : Int) := by omega
      have hpq : p < q := by omega
      have wp : IntKind.i64.wrap (p : Int) = (p : Int) := by rw [IntKind.wrap_i64]; omega
      have wq : IntKind.i64.wrap (q : Int) = (q : Int) := by rw [IntKind.wrap_i64]; omega
      clear hY h1 h2 hp hq
      go_wp2
      go_region
      all_goals go_wp2
      all_goals go_roundw
      case rel => exact ⟨k + 1, Y', by go_num, by omega, HN, HX.out.gr ((Gr.refl _).drew)⟩
      case measure => simp [intOf]; omega
    · have kz : ¬ (k : Int) < (m : Int) := by omega
      obtain rfl : k = m := by omega
      go_wp2
      go_end0
      exact ⟨rfl, Y, HS.out, HW.out⟩
end Go.Proofs.YtpefbmheblfbeaaGreat.So
