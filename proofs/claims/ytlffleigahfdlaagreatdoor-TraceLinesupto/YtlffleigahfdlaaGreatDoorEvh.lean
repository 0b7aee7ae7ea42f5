/- The document's look at an event; no conditions but those that each states. -/
import Derived.Test.YtlffleigahfdlaaGreatDoorEvg
namespace Go.Proofs.YtlffleigahfdlaaGreatDoor.Tr
open Go.RowKit Go.Maps Go.ChangeMaps
set_option linter.unusedVariables false
set_option linter.unusedSimpArgs false
theorem right_z : right (0, 0, 0, 0) = true := by decide
theorem mayF_ok {k c r : Int} : True := trivial
/-- the document's look, as one chain of conditions -/
theorem chk_d (e : Ez) : chkE e = (!(!isK e.kd || (decide (e.at_ < 0) || decide (4611686018427387904 < e.at_))) &&
    (!(!numB e.kd 99 e.cl || (!numB e.kd 110 e.ca || (!numB e.kd 114 e.ru || (!numB e.kd 103 e.ge || (!numB e.kd 104 e.ho || decide (6 < e.ho)))))) &&
    (!(!right e.out || (!(decide (e.va = 0) && nonF e.fk e.fc e.fr) && !nmB e.kd 118)) &&
    (decide (e.nm.size ≤ 64) && (zeroK e.sp e.nm || nmB e.kd 107))))) := by
  have hA : atB e.at_ = !(decide (e.at_ < 0) || decide (4611686018427387904 < e.at_)) := by
    unfold atB
    by_cases h1 : e.at_ < 0
    · rw [decide_eq_true h1, decide_eq_false (by omega)]; rfl
    · by_cases h2 : 4611686018427387904 < e.at_
      · rw [decide_eq_false h1, decide_eq_true h2, decide_eq_false (by omega)]; rfl
      · rw [decide_eq_false h1, decide_eq_false h2, decide_eq_true (by omega)]; rfl
  have hH : decide (e.ho ≤ 6) = !decide (6 < e.ho) := by
    by_cases h : e.ho ≤ 6
    · rw [decide_eq_true h, decide_eq_false (by omega)]; rfl
    · rw [decide_eq_false h, decide_eq_true (by omega)]; rfl
  have hO : outB e.kd e.out = !(!right e.out || (!(decide (e.va = 0) && nonF e.fk e.fc e.fr) && !nmB e.kd 118)) := by
    unfold outB
    cases hb : nmB e.kd 118
    · show (decide (e.va = 0) && nonF e.fk e.fc e.fr) = _
      cases hz : (decide (e.va = 0) && nonF e.fk e.fc e.fr)
      · cases right e.out <;> rfl
      · have : right e.out = true := by
          simp only [nonF, Bool.and_eq_true, decide_eq_true_eq] at hz
          obtain ⟨z0, z1, z2, z3⟩ := hz
          show right (e.va, e.fk, e.fc, e.fr) = true
          rw [z0, z1, z2, z3]; exact right_z
        rw [this]; rfl
    · cases right e.out <;> cases (decide (e.va = 0) && nonF e.fk e.fc e.fr) <;> rfl
  have hK : keyB e.kd e.sp e.nm = (decide (e.nm.size ≤ 64) && (zeroK e.sp e.nm || nmB e.kd 107)) := by
    unfold keyB
    cases nmB e.kd 107
    · cases hz : zeroK e.sp e.nm
      · cases decide (e.nm.size ≤ 64) <;> rfl
      · simp only [zeroK, Bool.and_eq_true, decide_eq_true_eq] at hz
        have : e.nm.size = 0 := by
          have h := hz.2
          rw [ByteArray.toList_eq] at h
          show e.nm.data.size = 0
          rw [← Array.length_toList, h]; rfl
        rw [decide_eq_true (by omega)]; rfl
    · cases zeroK e.sp e.nm <;> cases decide (e.nm.size ≤ 64) <;> rfl
  unfold chkE numsB
  rw [hA, hH, hO, hK]
  generalize (decide (e.at_ < 0) || decide (4611686018427387904 < e.at_)) = a1
  generalize (!(!right e.out || (!(decide (e.va = 0) && nonF e.fk e.fc e.fr) && !nmB e.kd 118))) = a2
  generalize (decide (e.nm.size ≤ 64) && (zeroK e.sp e.nm || nmB e.kd 107)) = a3
  generalize numB e.kd 99 e.cl = n1
  generalize numB e.kd 110 e.ca = n2
  generalize numB e.kd 114 e.ru = n3
  generalize numB e.kd 103 e.ge = n4
  generalize numB e.kd 104 e.ho = n5
  generalize decide (6 < e.ho) = n6
  generalize isK e.kd = k
  cases a1 <;> cases k <;> try rfl
  cases n1 <;> try rfl
  cases n2 <;> try rfl
  cases n3 <;> try rfl
  cases n4 <;> try rfl
  cases n5 <;> try rfl
theorem rnum_ (e : Ez) (c : Nat) (hc : c = 99 ∨ c = 110 ∨ c = 114 ∨ c = 103 ∨ c = 104) (n : Int) (w : World) : Calls Tryz.prog 40 #[e.val, .int .u8 c, .int .i64 n] w fun r w' => r = .returned (.bool (numB e.kd c n)) ∧ Touch [] w w' := by
  have := rnumber_ e c n w
  rw [has_nm e.kd c (by omega)] at this
  exact this
end Go.Proofs.YtlffleigahfdlaaGreatDoor.Tr
