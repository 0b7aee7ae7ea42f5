/- The walk of the law RecipeTexts: it returns true and lays new blocks alone; the conditions: the listed variables hold what the start lays, the list lies in memory, the text is not too long. -/
import Derived.Test.YtgjojdlbighoaaaDoorRps
import Derived.Test.YtgjojdlbighoaaaDoorRte
import Derived.Test.YtgjojdlbighoaaaDoorAwk
namespace Go.Proofs.YtgjojdlbighoaaaDoor
open Go.RowKit Go.Sort
set_option linter.unusedVariables false

theorem prr_len {s : List UInt8} {L : List Sp} {q : Nat} {er : Int} (h : PrR s L q er) : L.length ≤ 256 := by
  rcases h with ⟨_, rfl, _⟩ | ⟨_, ⟨_, rfl, _⟩ | ⟨_, _, _, rfl, _⟩ | ⟨_, h, _⟩⟩
  · simp
  · simp
  · simp
  · exact h
theorem empty_b : ((⟨#[]⟩ : ByteArray).toList == (⟨#[]⟩ : ByteArray).toList) = true := by simp
set_option maxRecDepth 20000 in
set_option maxHeartbeats 4000000 in
theorem texts5_ok (L : List Sp) (A : Option Addr) (c : Nat) (s : ByteArray) (w : World) (hS : Sy w) (hs : Sl w A L) (hw : WfS L) (hl : L.length ≤ 5864062014635) (hz : s.size ≤ 4194304) (hg : Good L) :
    Calls Tryd.prog 5 #[.slice A L.length c, .string s] w fun e w' => e = .returned (.bool true) ∧ Gr w w' := by
  have HA : Hid _ := fun w' (h' : Gr w w') => awake11 w' (hS.kd.gr h')
  have HT : Hid _ := fun w' (h' : Gr w w') => text24_ok L A c w' (hS.gr h') (hs.gr h') hw hg
  have HN : Hid _ := fun w' (h' : Gr w w') => given10 L A c w' (hs.gr h') hl
  have HC : Hid _ := fun w' A' c' (h' : Sl w' A' L) => rcheck9 L A' c' w' h' hw (by omega)
  have HP : Hid _ := fun w' (h' : Gr w w') => parse26 s w' (hS.gr h') hz
  have HR : Hid _ := fun w' => rparse27 s w' hz
  have HX : Hid _ := fun w' A' c' (h' : Sl w' A' L) => text25 L A' c' w' h' hw hg
  rw [chk_fst hg] at HC
  have hbb : ((textB L).toList == (textB L).toList) = true := by simp
  clear hg hw
  generalize textB L = TB at *
  clear hS hs hl hz
  go_enter Tryd.func5, Tryd.ntmps5
  go_wp2_with fail
  refine Calls.mono (HA.out _ (Gr.refl _)) ?_
  rintro e w0 ⟨rfl, hg0⟩
  have G0 : Hid (Gr w w0) := hg0
  clear hg0 HA
  go_wp2_with fail
  refine Calls.mono (HT.out _ G0.out) ?_
  rintro e w1 ⟨rfl, hg0⟩
  have G1 : Hid (Gr w w1) := G0.out.trans hg0
  clear hg0 HT G0
  go_wp2_with fail
  refine Calls.mono (HN.out _ G1.out) ?_
  rintro e w2 ⟨A2, c2, rfl, hs2, hg0⟩
  have G2 : Hid (Gr w w2) := G1.out.trans hg0
  have HC2 : Hid _ := HC.out _ _ c2 hs2
  clear hg0 G1 hs2
  go_wp2_with fail
  refine Calls.mono HC2.out ?_
  rintro e w3 ⟨rfl, hg0⟩
  have G3 : Hid (Gr w w3) := G2.out.trans hg0
  clear hg0 G2 HC2
  go_wp2_with fail
  refine Calls.mono (HN.out _ G3.out) ?_
  rintro e w4 ⟨A4, c4, rfl, hs4, hg0⟩
  have G4 : Hid (Gr w w4) := G3.out.trans hg0
  have HX4 : Hid _ := HX.out _ _ c4 hs4
  clear hg0 G3 hs4
  go_wp2_with fail
  refine Calls.mono HX4.out ?_
  rintro e w5 ⟨rfl, hg0⟩
  have G5 : Hid (Gr w w5) := G4.out.trans hg0
  clear hg0 G4 HX4
  go_wp2_with fail
  refine Calls.mono (HP.out _ G5.out) ?_
  rintro e w6 ⟨A6, c6, L6, q6, er6, rfl, hs6, hp6, hg6⟩
  have G6 : Hid (Gr w w6) := G5.out.trans hg6
  have H6 : Hid (Sl w6 A6 L6 ∧ PrR s.data.toList L6 q6 er6) := ⟨hs6, hp6⟩
  clear hg6 hs6 hp6 HP
  go_wp2_with fail
  refine Calls.mono (HR.out _) ?_
  rintro e w7 ⟨A7, c7, L7, q7, er7, rfl, hs7, hp7, hg7⟩
  obtain ⟨rfl, rfl, rfl⟩ := H6.out.2.eq hp7
  have G7 : Hid (Gr w w7) := G6.out.trans hg7
  have HSm : Hid _ := same14 L6 A6 A7 c6 c7 w7 (H6.out.1.gr hg7) hs7 (by have := prr_len hp7; omega)
  clear hg7 hs7 hp7 HR
  go_wp2_with fail
  refine Calls.mono HSm.out ?_
  rintro e w8 ⟨rfl, hg8⟩
  have G8 : Hid (Gr w w8) := G7.out.trans hg8
  clear hg8 HSm
  go_wp2_with fail
  go_ret
  exact ⟨by simp, G8.out⟩

set_option maxRecDepth 20000 in
set_option maxHeartbeats 4000000 in
theorem texts5_no (L : List Sp) (A : Option Addr) (c : Nat) (s : ByteArray) (w : World) (hS : Sy w) (hs : Sl w A L) (hw : WfS L) (hl : L.length ≤ 5864062014635) (hz : s.size ≤ 4194304) (hg : ¬ Good L) :
    Calls Tryd.prog 5 #[.slice A L.length c, .string s] w fun e w' => e = .returned (.bool true) ∧ Gr w w' := by
  have HA : Hid _ := fun w' (h' : Gr w w') => awake11 w' (hS.kd.gr h')
  have HT : Hid _ := fun w' (h' : Gr w w') => text24_no L A c w' (hS.gr h') (hs.gr h') hw (by omega) hg
  have HN : Hid _ := fun w' (h' : Gr w w') => given10 L A c w' (hs.gr h') hl
  have HC : Hid _ := fun w' A' c' (h' : Sl w' A' L) => rcheck9 L A' c' w' h' hw (by omega)
  have HP : Hid _ := fun w' (h' : Gr w w') => parse26 s w' (hS.gr h') hz
  have HR : Hid _ := fun w' => rparse27 s w' hz
  have h1 : ¬ (chkS L).2 = 0 := fun h => hg (chk_good.1 h)
  have hne : ((chkS L).2 == 0) = false := by simpa using h1
  have hee := empty_b
  clear hg hw
  generalize (chkS L).2 = v at *
  generalize (chkS L).1 = v1 at *
  clear hS hs hl hz
  go_enter Tryd.func5, Tryd.ntmps5
  go_wp2_with fail
  refine Calls.mono (HA.out _ (Gr.refl _)) ?_
  rintro e w0 ⟨rfl, hg0⟩
  have G0 : Hid (Gr w w0) := hg0
  clear hg0 HA
  go_wp2_with fail
  refine Calls.mono (HT.out _ G0.out) ?_
  rintro e w1 ⟨rfl, hg0⟩
  have G1 : Hid (Gr w w1) := G0.out.trans hg0
  clear hg0 HT G0
  go_wp2_with fail
  refine Calls.mono (HN.out _ G1.out) ?_
  rintro e w2 ⟨A2, c2, rfl, hs2, hg0⟩
  have G2 : Hid (Gr w w2) := G1.out.trans hg0
  have HC2 : Hid _ := HC.out _ _ c2 hs2
  clear hg0 G1 hs2
  go_wp2_with fail
  refine Calls.mono HC2.out ?_
  rintro e w3 ⟨rfl, hg0⟩
  have G3 : Hid (Gr w w3) := G2.out.trans hg0
  clear hg0 G2 HC2
  go_wp2_with fail
  refine Calls.mono (HP.out _ G3.out) ?_
  rintro e w6 ⟨A6, c6, L6, q6, er6, rfl, hs6, hp6, hg6⟩
  have G6 : Hid (Gr w w6) := G3.out.trans hg6
  have H6 : Hid (Sl w6 A6 L6 ∧ PrR s.data.toList L6 q6 er6) := ⟨hs6, hp6⟩
  clear hg6 hs6 hp6 HP
  go_wp2_with fail
  refine Calls.mono (HR.out _) ?_
  rintro e w7 ⟨A7, c7, L7, q7, er7, rfl, hs7, hp7, hg7⟩
  obtain ⟨rfl, rfl, rfl⟩ := H6.out.2.eq hp7
  have G7 : Hid (Gr w w7) := G6.out.trans hg7
  have HSm : Hid _ := same14 L6 A6 A7 c6 c7 w7 (H6.out.1.gr hg7) hs7 (by have := prr_len hp7; omega)
  clear hg7 hs7 hp7 HR
  go_wp2_with fail
  refine Calls.mono HSm.out ?_
  rintro e w8 ⟨rfl, hg8⟩
  have G8 : Hid (Gr w w8) := G7.out.trans hg8
  clear hg8 HSm
  go_wp2_with fail
  go_ret
  exact ⟨by simp, G8.out⟩

theorem texts5 (L : List Sp) (A : Option Addr) (c : Nat) (s : ByteArray) (w : World) (hS : Sy w) (hs : Sl w A L) (hw : WfS L) (hl : L.length ≤ 5864062014635) (hz : s.size ≤ 4194304) :
    Calls Tryd.prog 5 #[.slice A L.length c, .string s] w fun e w' => e = .returned (.bool true) ∧ Gr w w' := by
  by_cases hg : Good L
  · exact texts5_ok L A c s w hS hs hw hl hz hg
  · exact texts5_no L A c s w hS hs hw hl hz hg
end Go.Proofs.YtgjojdlbighoaaaDoor
