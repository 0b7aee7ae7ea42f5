/- The contracts of the program's texts of failures; the conditions: the numbers are of 64 bits, the program's table of words and the library's table of powers of ten hold what the start lays. -/
import Derived.Test.YtifhfdndbnmhlaaDoorSml
import Derived.Test.YtifhfdndbnmhlaaDoorShelf
namespace Go.Proofs.YtifhfdndbnmhlaaDoor
open Go.RowKit Go.Sort
set_option linter.unusedVariables false

def Tab (w : World) : Prop := Lib.TabIs Tryd.prog w "internal/strconv.uint64pow10" .u64 Lib.pow10Tab
theorem var_below {B : Nat} {w w' : World} {name : String} {cs : Array Value} {g : Nat} (hg : Tryd.prog.globalNamed name = some g) (h : Below B w w') (hB : g < B) (hv : w.var? Tryd.prog name = some cs) : w'.var? Tryd.prog name = some cs := by
  unfold World.var? at *
  rw [hg] at hv ⊢
  simp only [Option.bind_some] at hv ⊢
  rw [h.block g hB]
  exact hv
theorem var_lt {w : World} {name : String} {cs : Array Value} {g : Nat} (hg : Tryd.prog.globalNamed name = some g) (hv : w.var? Tryd.prog name = some cs) : g < w.heap.size := by
  unfold World.var? at hv
  rw [hg] at hv
  simp only [Option.bind_some] at hv
  by_cases h : g < w.heap.size
  · exact h
  · rw [Array.getElem?_eq_none (by omega)] at hv
    cases hv
theorem gTab : Tryd.prog.globalNamed "internal/strconv.uint64pow10" = some 5 := by kernel_rfl
theorem Tab.gr {w w' : World} (h : Tab w) (hg : Gr w w') : Tab w' := var_below gTab hg.below (var_lt gTab h) h

abbrev wNone : ByteArray := ⟨#[110, 111, 110, 101]⟩
abbrev wLoad : ByteArray := ⟨#[108, 111, 97, 100]⟩
abbrev wPanic : ByteArray := ⟨#[112, 97, 110, 105, 99]⟩
abbrev wCancel : ByteArray := ⟨#[99, 97, 110, 99, 101, 108]⟩
abbrev wBusy : ByteArray := ⟨#[98, 117, 115, 121]⟩
abbrev wAbort : ByteArray := ⟨#[97, 98, 111, 114, 116]⟩
abbrev wKind : ByteArray := ⟨#[107, 105, 110, 100]⟩
abbrev sp : ByteArray := ⟨#[32]⟩
/-- the program's table of words -/
structure Wo (w : World) : Prop where
  c0 : w.cell? ⟨0, 0, none⟩ = some (.string wNone)
  c1 : w.cell? ⟨0, 1, none⟩ = some (.string wLoad)
  c2 : w.cell? ⟨0, 2, none⟩ = some (.string wPanic)
  c3 : w.cell? ⟨0, 3, none⟩ = some (.string wCancel)
  c4 : w.cell? ⟨0, 4, none⟩ = some (.string wBusy)
  c5 : w.cell? ⟨0, 5, none⟩ = some (.string wAbort)
theorem Wo.gr {w w' : World} (h : Wo w) (hg : Gr w w') : Wo w' := ⟨hg.cell' h.c0, hg.cell' h.c1, hg.cell' h.c2, hg.cell' h.c3, hg.cell' h.c4, hg.cell' h.c5⟩

def itoaB (a : Int) : ByteArray := ⟨(Lib.itoa a).toArray⟩
def wordB (k : Int) : ByteArray := if k = 1 then wLoad else if k = 2 then wPanic else if k = 3 then wCancel else if k = 4 then wBusy else if k = 5 then wAbort else wKind ++ itoaB k
def textB (k c r : Int) : ByteArray := if none3 k c r then wNone else wordB k ++ sp ++ itoaB c ++ sp ++ itoaB r
theorem nDigits_le : ∀ n, ∀ u, u < 10 ^ (n + 1) → Lib.nDigits u ≤ n + 1 := by
  intro n
  induction n with
  | zero => intro u hu; rw [Lib.nDigits_small (by omega)]; omega
  | succ n ih =>
    intro u hu
    by_cases h : u < 10
    · rw [Lib.nDigits_small h]; omega
    · rw [Lib.nDigits_big h]
      have := ih (u / 10) (by rw [Nat.pow_succ] at hu; omega)
      omega
def I64 (a : Int) : Prop := -9223372036854775808 ≤ a ∧ a ≤ 9223372036854775807
theorem itoaB_size (a : Int) (h : I64 a) : (itoaB a).size ≤ 21 := by
  show (Lib.itoa a).toArray.size ≤ 21
  obtain ⟨h0, h1⟩ := h
  unfold Lib.itoa
  split
  · have := nDigits_le 19 a.natAbs (by omega)
    rw [List.size_toArray, List.length_cons, Lib.decDigits_length]
    omega
  · have := nDigits_le 19 a.toNat (by omega)
    rw [List.size_toArray, Lib.decDigits_length]
    omega
theorem wordB_size (k : Int) (h : I64 k) : (wordB k).size ≤ 25 := by
  unfold wordB
  repeat' split
  all_goals first | decide | skip
  rw [ByteArray.size_append]
  have := itoaB_size k h
  have : wKind.size = 4 := rfl
  omega
theorem gr_grow (w : World) (n : Nat) (os : Array Obj) : Gr w (grow (w.drewN n) os) := by
  have h := gr_re w (w.drawn + n) os
  exact h
theorem itoa35 (a : Int) (h : I64 a) (w : World) (ht : Tab w) : Calls Tryd.prog 35 #[.int .i64 a] w fun e w' => e = .returned (.string (itoaB a)) ∧ Gr w w' :=
  (Tryd.strconv_Itoa a h.1 h.2 w ht).mono fun e w' ⟨he, q, os, hq⟩ => ⟨he, by rw [hq]; exact gr_grow w q os⟩

theorem word34 (k : Int) (h : I64 k) (w : World) (ht : Tab w) (hw : Wo w) : Calls Tryd.prog 34 #[.int .i64 k] w fun e w' => e = .returned (.string (wordB k)) ∧ Gr w w' := by
  obtain ⟨c0, c1, c2, c3, c4, c5⟩ := hw
  by_cases h1 : k = 1
  · subst h1
    go_enter Tryd.func34, Tryd.ntmps34
    go_wp2
    go_ret
    exact ⟨rfl, Gr.refl _⟩
  by_cases h2 : k = 2
  · subst h2
    go_enter Tryd.func34, Tryd.ntmps34
    go_wp2
    go_ret
    exact ⟨rfl, Gr.refl _⟩
  by_cases h3 : k = 3
  · subst h3
    go_enter Tryd.func34, Tryd.ntmps34
    go_wp2
    go_ret
    exact ⟨rfl, Gr.refl _⟩
  by_cases h4 : k = 4
  · subst h4
    go_enter Tryd.func34, Tryd.ntmps34
    go_wp2
    go_ret
    exact ⟨rfl, Gr.refl _⟩
  by_cases h5 : k = 5
  · subst h5
    go_enter Tryd.func34, Tryd.ntmps34
    go_wp2
    go_ret
    exact ⟨rfl, Gr.refl _⟩
  have hv : wordB k = wKind ++ itoaB k := by simp [wordB, h1, h2, h3, h4, h5]
  rw [hv]
  have hz := itoaB_size k h
  have e1 : ∀ w, (Op.stringOp .add wKind (itoaB k)).run Tryd.prog w = .ok (.string (wKind ++ itoaB k)) w := fun w => run_string_add_sum w _ _ (by have : wKind.size = 4 := rfl; omega)
  have HT : Hid (Tab w) := ht
  have H6 : Hid (I64 k) := h
  clear hv ht h
  by_cases hk : 0 < k
  · have hk6 : ¬ k < 6 := by omega
    go_enter Tryd.func34, Tryd.ntmps34
    go_wp2_with (go_at_call 35; refine (itoa35 k H6.out _ HT.out).mono ?_; rintro e w1 ⟨rfl, hg⟩)
    go_ret
    exact ⟨rfl, hg⟩
  · go_enter Tryd.func34, Tryd.ntmps34
    go_wp2_with (go_at_call 35; refine (itoa35 k H6.out _ HT.out).mono ?_; rintro e w1 ⟨rfl, hg⟩)
    go_ret
    exact ⟨rfl, hg⟩

set_option maxRecDepth 100000 in
set_option maxHeartbeats 1000000 in
theorem text18 (k c r : Int) (hk : I64 k) (hc : I64 c) (hr : I64 r) (w : World) (ht : Tab w) (hw : Wo w) :
    Calls Tryd.prog 18 #[fl k c r] w fun e w' => e = .returned (.string (textB k c r)) ∧ Gr w w' := by
  have mixed := mixed
  cases hn : none3 k c r with
  | true =>
    have hv : textB k c r = wNone := by simp [textB, hn]
    rw [hv]
    have HW : Hid (Wo w) := hw
    clear hw hv
    go_enter Tryd.func18, Tryd.ntmps18
    go_wp2_with (go_at_call 28; refine (none28 k c r _).mono ?_; rw [hn]; rintro e w1 ⟨rfl, hg⟩; have c0 := (HW.out.gr (((Gr.refl w).alloc _).trans hg)).c0)
    go_ret
    exact ⟨rfl, ((Gr.refl w).alloc _).trans hg⟩
  | false =>
    have hv : textB k c r = wordB k ++ sp ++ itoaB c ++ sp ++ itoaB r := by simp [textB, hn]
    rw [hv]
    have z1 := wordB_size k hk
    have z2 := itoaB_size c hc
    have z3 := itoaB_size r hr
    have zs : sp.size = 1 := rfl
    have e1 : ∀ w, (Op.stringOp .add (wordB k) sp).run Tryd.prog w = .ok (.string (wordB k ++ sp)) w := fun w => run_string_add_sum w _ _ (by omega)
    have e2 : ∀ w, (Op.stringOp .add (wordB k ++ sp) (itoaB c)).run Tryd.prog w = .ok (.string (wordB k ++ sp ++ itoaB c)) w := fun w => run_string_add_sum w _ _ (by rw [ByteArray.size_append]; omega)
    have e3 : ∀ w, (Op.stringOp .add (wordB k ++ sp ++ itoaB c) sp).run Tryd.prog w = .ok (.string (wordB k ++ sp ++ itoaB c ++ sp)) w := fun w => run_string_add_sum w _ _ (by rw [ByteArray.size_append, ByteArray.size_append]; omega)
    have e4 : ∀ w, (Op.stringOp .add (wordB k ++ sp ++ itoaB c ++ sp) (itoaB r)).run Tryd.prog w = .ok (.string (wordB k ++ sp ++ itoaB c ++ sp ++ itoaB r)) w := fun w => run_string_add_sum w _ _ (by rw [ByteArray.size_append, ByteArray.size_append, ByteArray.size_append]; omega)
    have HT : Hid (Tab w) := ht
    have HW : Hid (Wo w) := hw
    have HK : Hid (I64 k) := hk
    have HC : Hid (I64 c) := hc
    have HR : Hid (I64 r) := hr
    clear hw hv ht hk hc hr z1 z2 z3 zs
    go_enter Tryd.func18, Tryd.ntmps18
    go_wp2_with (go_at_call 28; refine (none28 k c r _).mono ?_; rw [hn]; rintro e w1 ⟨rfl, hg⟩)
    have k0 := cell_regrown (hg.cell' (a := ⟨w.heap.size, 0, none⟩) (v := .int .i64 k) (by simp))
    have k1 := cell_regrown (hg.cell' (a := ⟨w.heap.size, 1, none⟩) (v := .int .i64 c) (by simp))
    have k2 := cell_regrown (hg.cell' (a := ⟨w.heap.size, 2, none⟩) (v := .int .i64 r) (by simp))
    have G : Hid (Gr w w1) := ((Gr.refl w).alloc _).trans hg
    clear hg
    refine wp_region_quiet_below (by assumption) (by kernel_rfl) ?_
    repeat (quiet_step (first
      | (go_at_call 34; exact Calls.regrown_of (word34 k HK.out _ (HT.out.gr (G.out.re _ _)) (HW.out.gr (G.out.re _ _))))
      | (go_at_call 35; first | exact Calls.regrown_of (itoa35 c HC.out _ (HT.out.gr (G.out.re _ _))) | exact Calls.regrown_of (itoa35 r HR.out _ (HT.out.gr (G.out.re _ _))))))
    refine wpQuiet_nil ?_
    intro _ hw'
    obtain ⟨⟨dq, osq⟩, hw''⟩ := hw'
    subst hw''
    go_wp2
    go_ret
    exact ⟨rfl, G.out.re _ _⟩
end Go.Proofs.YtifhfdndbnmhlaaDoor
