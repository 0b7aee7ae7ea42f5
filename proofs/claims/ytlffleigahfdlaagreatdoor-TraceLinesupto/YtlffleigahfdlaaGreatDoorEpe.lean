/- The text without the bytes that end lines, plain; bytes counted in a text; no conditions but those that each states. -/
import Derived.Test.YtlffleigahfdlaaGreatDoorEpd
import Derived.Lib.Bytealg
namespace Go.Proofs.YtlffleigahfdlaaGreatDoor.Tr
open Go.RowKit Go.Shelf Go.Maps Go.ChangeMaps
set_option linter.unusedVariables false
set_option linter.unusedSimpArgs false
def mk1 (b : UInt8) : List UInt8 := if b = 10 then [37, 48, 97] else if b = 13 then [37, 48, 100] else if b = 37 then [37, 50, 53] else [b]
def maskL (l : List UInt8) : List UInt8 := l.flatMap mk1
def spec (b : UInt8) : Bool := b == 10 || b == 13 || b == 37
def cnt (l : List UInt8) : Nat := l.countP spec
theorem mk1_len (b : UInt8) : (mk1 b).length = if spec b then 3 else 1 := by
  unfold mk1 spec
  by_cases h1 : b = 10
  · subst h1; rfl
  · by_cases h2 : b = 13
    · subst h2; rfl
    · by_cases h3 : b = 37
      · subst h3; rfl
      · simp [h1, h2, h3]
theorem maskL_len (l : List UInt8) : (maskL l).length = l.length + 2 * cnt l := by
  unfold maskL cnt
  induction l with
  | nil => rfl
  | cons b l ih =>
    rw [List.flatMap_cons, List.length_append, ih, mk1_len, List.countP_cons, List.length_cons]
    split <;> omega
theorem cnt_le (l : List UInt8) : cnt l ≤ l.length := List.countP_le_length
theorem cnt_three (l : List UInt8) : cnt l = l.count 37 + l.count 13 + l.count 10 := by
  unfold cnt
  induction l with
  | nil => rfl
  | cons b l ih =>
    rw [List.countP_cons, ih, List.count_cons, List.count_cons, List.count_cons]
    unfold spec
    by_cases h1 : b = 10
    · subst h1; simp; omega
    · by_cases h2 : b = 13
      · subst h2; simp; omega
      · by_cases h3 : b = 37
        · subst h3; simp; omega
        · simp [h1, h2, h3]
theorem maskL_none {l : List UInt8} (h : cnt l = 0) : maskL l = l := by
  unfold cnt at h
  unfold maskL
  induction l with
  | nil => rfl
  | cons b l ih =>
    rw [List.countP_cons] at h
    have hb : spec b = false := by
      cases e : spec b
      · rfl
      · rw [e] at h; simp at h
    rw [List.flatMap_cons, ih (by omega)]
    have : mk1 b = [b] := by
      unfold spec at hb
      simp at hb
      unfold mk1
      rw [if_neg hb.1.1, if_neg hb.1.2, if_neg hb.2]
    rw [this]
    rfl
set_option maxHeartbeats 1000000 in
set_option maxRecDepth 100000 in
theorem count_ (s : ByteArray) (c : UInt8) (w : World) : Calls Tryz.prog 246 #[.string s, .string ⟨#[c]⟩] w fun e w' => e = .returned (.int .i64 (s.data.toList.count c : Nat)) ∧ w' = w := by
  go_enter Tryz.func246, Tryz.ntmps246
  go_wp2
  rw [run_callFunc_extern Tryz.func248 (by kernel_rfl) (by kernel_rfl) (by kernel_rfl) (e := Extern.BytealgCount.count) (by kernel_rfl), Lib.run_countString]
  simp only [Result.andThen]
  rw [Oper.upon_value]
  go_wp2
  go_ret
  exact ⟨rfl, rfl⟩
end Go.Proofs.YtlffleigahfdlaaGreatDoor.Tr
