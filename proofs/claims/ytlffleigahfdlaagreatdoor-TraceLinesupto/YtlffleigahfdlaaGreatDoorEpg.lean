/- A text without the bytes that end lines, where it holds one; no conditions but those that each states. -/
import Derived.Test.YtlffleigahfdlaaGreatDoorEpf
namespace Go.Proofs.YtlffleigahfdlaaGreatDoor.Tr
open Go.RowKit Go.Shelf Go.Maps Go.ChangeMaps
set_option linter.unusedVariables false
set_option linter.unusedSimpArgs false
set_option maxRecDepth 100000 in
set_option maxHeartbeats 1000000 in
/-- Replace of a replacer that is new. -/
theorem replace_ {w : World} {b g m : Nat} (hb : w.heap[b]? = some (.cells (rcs 0 0 .nilIface (.slice (some ⟨g, 0, none⟩) 6 m)) 193 (0, 0))) (hm : 6 ≤ m) (hR : Six w g) (s : ByteArray) (hs : s.size ≤ 1099511627776) :
    Calls Tryz.prog 105 #[PT b, .string s] w fun e w' => e = .returned (.string ⟨(maskL s.data.toList).toArray⟩) ∧ Touch [b] w w' := by
  have HD : Hid _ := doBuild_ hb hm hR
  have HS : Hid (∀ (w2 : World) (r : Nat), Br w2 w.heap.size r 3 → Calls Tryz.prog 244 #[PT r, .string s] w2 fun e w' => e = .returned (.string ⟨(maskL s.data.toList).toArray⟩) ∧ Touch [] w2 w') := hid (fun w2 r h => bsrep_ h s hs)
  have hmf := makef Tryz.prog
  have Hb := hid hb
  unfold PT at HD HS ⊢
  go_enter Tryz.func105, Tryz.ntmps105
  go_wp2_with fail
  refine Calls.mono HD.out ?_
  rintro e w2 ⟨rfl, r, q1, q2, q3⟩
  have c3 : w2.cell? ⟨b, 3, none⟩ = some (.iface 243 (.pointer (some ⟨r, 0, none⟩))) := cell_at q1 (j := 3) rfl
  have H2 := hid (And.intro q2 q3)
  clear q1 q2 q3 hb
  go_wp2_with fail
  refine Calls.mono (HS.out w2 r H2.out.1) ?_
  rintro e w3 ⟨rfl, t3⟩
  have T := hid (H2.out.2.trans t3 (by simp))
  go_wp2_with fail
  go_ret
  exact ⟨rfl, T.out⟩
/-- The text without the bytes that end lines. -/
def endsB (l : List UInt8) : Bool := l.any spec
set_option maxRecDepth 100000 in
set_option maxHeartbeats 1000000 in
theorem masked_ {w : World} (s : ByteArray) (hs : s.size ≤ 1099511627776)
    (HA : Calls Tryz.prog 103 #[.string s, .string ⟨#[10, 13, 37]⟩] w fun e w' => e = .returned (.bool (endsB s.data.toList)) ∧ Touch [] w w') :
    Calls Tryz.prog 81 #[.string s] w fun e w' => e = .returned (.string ⟨(maskL s.data.toList).toArray⟩) ∧ Touch [] w w' := by
  obtain ⟨x, hx⟩ : ∃ x : Bool, endsB s.data.toList = x := ⟨_, rfl⟩
  rw [hx] at HA
  have HA' : Hid _ := HA
  clear HA
  have HN : Hid (∀ (w2 : World) (g : Nat), Six w2 g → Calls Tryz.prog 104 #[.slice (some ⟨g, 0, none⟩) 6 6] w2 fun e w' => ∃ b h m, e = .returned (PT b) ∧ w2.heap.size ≤ b ∧ w'.heap[b]? = some (.cells (rcs 0 0 .nilIface (.slice (some ⟨h, 0, none⟩) 6 m)) 193 (0, 0)) ∧ 6 ≤ m ∧ Six w' h ∧ Touch [] w2 w') := hid (fun w2 g h => newRep_ h)
  have hnot : ∀ (x : Bool) (w : World), (Op.unary .not (.bool x)).run Tryz.prog w = .ok (.bool (!x)) w := fun _ _ => rfl
  go_enter Tryz.func81, Tryz.ntmps81
  go_wp2_with fail
  refine Calls.mono HA'.out ?_
  rintro e w1 ⟨rfl, t1⟩
  have T1 := hid t1
  clear t1
  cases x with
  | false =>
    have hM : maskL s.data.toList = s.data.toList := maskL_none (by
      unfold cnt
      rw [List.countP_eq_zero]
      intro a ha h
      unfold endsB at hx
      rw [List.any_eq_false] at hx
      exact hx a ha h)
    go_wp2_with fail
    go_ret
    exact ⟨by first | rfl | (rw [hM]; rfl), T1.out⟩
  | true =>
    have H6 : Hid (Six (w1.alloc (.cells six.toArray 9)) w1.heap.size) := hid ⟨_, _, heap_alloc_new w1 _, fun j u hu => by simpa using hu⟩
    have HN2 : Hid _ := HN.out _ _ H6.out
    have HP : Hid (∀ (w2 : World) (b g m : Nat), w2.heap[b]? = some (.cells (rcs 0 0 .nilIface (.slice (some ⟨g, 0, none⟩) 6 m)) 193 (0, 0)) → 6 ≤ m → Six w2 g → Calls Tryz.prog 105 #[PT b, .string s] w2 fun e w' => e = .returned (.string ⟨(maskL s.data.toList).toArray⟩) ∧ Touch [b] w2 w') := hid (fun w2 b g m h1 h2 h3 => replace_ h1 h2 h3 s hs)
    unfold PT at HN2 HP
    go_wp2_with fail
    refine Calls.mono HN2.out ?_
    rintro e w2 ⟨b, h, m, rfl, q1, q2, q3, q4, q5⟩
    have HP2 := hid (HP.out _ _ _ _ q2 q3 q4)
    have H2 := hid (And.intro q1 q5)
    clear q1 q2 q3 q4 q5
    go_wp2_with fail
    refine Calls.mono HP2.out ?_
    rintro e w3 ⟨rfl, t3⟩
    have T : Hid (Touch [] w w3) := hid ((T1.out.trans' (((Touch.refl [] w1).alloc (.cells six.toArray 9)).trans' H2.out.2)).trans t3 (fun k hk => Or.inr (by
      have h1 := T1.out.size
      have h2 := H2.out.1
      simp at hk h2
      omega)))
    clear t3
    go_wp2_with fail
    go_ret
    exact ⟨rfl, T.out⟩
end Go.Proofs.YtlffleigahfdlaaGreatDoor.Tr
