/- What was masked, read back; no conditions but those that each states. -/
import Derived.Test.YtlffleigahfdlaaGreatDoorFgj
import Derived.Test.YtlffleigahfdlaaGreatDoorShx
namespace Go.Proofs.YtlffleigahfdlaaGreatDoor.Tr
open Go.RowKit Go.Sort Go.Shelf Go.Maps Go.ChangeMaps
set_option linter.unusedVariables false
set_option linter.unusedSimpArgs false
theorem unF_self : ∀ (l : List UInt8), ¬ (37 : UInt8) ∈ l → unF l = l
  | [], _ => rfl
  | a :: l, h => by
    simp only [List.mem_cons, not_or] at h
    rw [unF_no (lkL_first (fun e => h.1 e.symm)), unF_self l h.2]
theorem unF_ne {l : List UInt8} (h : l ≠ []) : unF l ≠ [] := by
  cases l with
  | nil => exact absurd rfl h
  | cons a l =>
    cases hk : lkL (a :: l) with
    | none => rw [unF_no hk]; simp
    | some x => rw [(unF_hit hk).1]; simp
def six2A : Array Value := #[.string ⟨#[37, 48, 97]⟩, .string ⟨#[10]⟩, .string ⟨#[37, 48, 100]⟩, .string ⟨#[13]⟩, .string ⟨#[37, 50, 53]⟩, .string ⟨#[37]⟩]
set_option maxRecDepth 100000 in
set_option maxHeartbeats 1000000 in
theorem unmasked_ {w : World} (s : ByteArray) (hs : s.size ≤ 1099511627776) :
    Calls Tryz.prog 89 #[.string s] w fun e w' => e = .returned (.string ⟨(unF s.data.toList).toArray⟩) ∧ Touch [] w w' := by
  have HC := hid (Tryz.strings_Contains_one s 37 w)
  have hnot : ∀ (x : Bool) (w : World), (Op.unary .not (.bool x)).run Tryz.prog w = .ok (.bool (!x)) w := fun _ _ => rfl
  have HN : Hid (∀ (w2 : World) (g : Nat), Six2 w2 g → Calls Tryz.prog 104 #[.slice (some ⟨g, 0, none⟩) 6 6] w2 fun e w' => ∃ b h m, e = .returned (PT b) ∧ w2.heap.size ≤ b ∧ w'.heap[b]? = some (.cells (rcs 0 0 .nilIface (.slice (some ⟨h, 0, none⟩) 6 m)) 193 (0, 0)) ∧ 6 ≤ m ∧ Six2 w' h ∧ Touch [] w2 w') := hid (fun w2 g h => newRepG_ h)
  obtain ⟨x, hx⟩ : ∃ x : Bool, decide (0 ≤ Lib.indexByte s.data.toList 37) = x := ⟨_, rfl⟩
  rw [hx] at HC
  go_enter Tryz.func89, Tryz.ntmps89
  go_wp2_with fail
  refine Calls.mono HC.out ?_
  rintro e w1 ⟨rfl, rfl⟩
  clear HC
  cases x with
  | false =>
    have hM : unF s.data.toList = s.data.toList := unF_self _ (fun hm => by
      have h1 := Lib.indexByte_ge s.data.toList 37
      have h2 : ¬ 0 ≤ Lib.indexByte s.data.toList 37 := by simpa using hx
      have h3 : Lib.indexByte s.data.toList 37 = -1 := by omega
      obtain ⟨k, hk⟩ := List.mem_iff_getElem?.1 hm
      exact Lib.indexByte_none h3 k hk)
    go_wp2_with fail
    go_ret
    exact ⟨by first | rfl | (rw [hM]; rfl), Touch.refl _ _⟩
  | true =>
    have hne : s.data.toList ≠ [] := fun e => by
      rw [e] at hx
      revert hx
      decide
    have H6 : Hid (Six2 (w1.alloc (.cells six2A 9)) w1.heap.size) := hid ⟨_, _, heap_alloc_new w1 _, fun j u hu => by
      rw [show six2A = six2.toArray from rfl]
      simpa using hu⟩
    have HN2 : Hid _ := hid (HN.out _ _ H6.out)
    have HP : Hid (∀ (w2 : World) (b g m : Nat), w2.heap[b]? = some (.cells (rcs 0 0 .nilIface (.slice (some ⟨g, 0, none⟩) 6 m)) 193 (0, 0)) → 6 ≤ m → Six2 w2 g → Calls Tryz.prog 105 #[PT b, .string s] w2 fun e w' => e = .returned (.string ⟨(unF s.data.toList).toArray⟩) ∧ Touch [b] w2 w') := hid (fun w2 b g m h1 h2 h3 => replaceG_ h1 h2 h3 s hs (unF_ne hne))
    clear hne hx HN H6
    unfold PT at HN2 HP
    unfold six2A at HN2
    go_wp2_with fail
    refine Calls.mono HN2.out ?_
    rintro e w2 ⟨b, h, m, rfl, q1, q2, q3, q4, q5⟩
    have HP2 := hid (HP.out _ _ _ _ q2 q3 q4)
    have H2 := hid (And.intro q1 q5)
    clear q1 q2 q3 q4 q5
    go_wp2_with fail
    refine Calls.mono HP2.out ?_
    rintro e w3 ⟨rfl, t3⟩
    have T : Hid (Touch [] w1 w3) := hid ((((Touch.refl [] w1).alloc (.cells six2A 9)).trans' H2.out.2).trans t3 (fun k hk => Or.inr (by
      have h2 := H2.out.1
      simp at hk h2
      omega)))
    clear t3
    go_wp2_with fail
    go_ret
    exact ⟨rfl, T.out⟩
end Go.Proofs.YtlffleigahfdlaaGreatDoor.Tr
