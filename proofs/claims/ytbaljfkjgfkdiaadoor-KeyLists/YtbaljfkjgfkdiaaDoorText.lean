/- The contracts of the program's and the document's texts of keys, and of the law's wakefulness; a number's digits are the library's, out of its table of powers of ten. -/
import Derived.Test.YtbaljfkjgfkdiaaDoorRef
namespace Go.Proofs.YtbaljfkjgfkdiaaDoor
open Go.RowKit Go.Sort
set_option linter.unusedVariables false

def Tab (w : World) : Prop := Lib.TabIs Tryd.prog w "internal/strconv.uint64pow10" .u64 Lib.pow10Tab
theorem var_below {B : Nat} {w w' : World} {name : String} {cs : Array Value} {g : Nat} (hg : Tryd.prog.globalNamed name = some g) (h : Below B w w') (hB : g < B) (hv : w.var? Tryd.prog name = some cs) : w'.var? Tryd.prog name = some cs := by
  unfold World.var? at *
  rw [hg] at hv ⊢
  simp only [Option.bind_some] at hv ⊢
  rw [h.block g hB]
  exact hv
theorem var_lt {w : World} {name : String} {cs : Array Value} {g : Nat} (hg : Tryd.prog.globalNamed name = some g) (hv : w.var? Tryd.prog name = some cs) : g < w.heap.size := by
  unfold World.var? at hv
  rw [hg] at hv
  simp only [Option.bind_some] at hv
  by_cases h : g < w.heap.size
  · exact h
  · rw [Array.getElem?_eq_none (by omega)] at hv
    cases hv
theorem gTab : Tryd.prog.globalNamed "internal/strconv.uint64pow10" = some 1 := by kernel_rfl
theorem Tab.gr {w w' : World} (h : Tab w) (hg : Gr w w') : Tab w' := var_below gTab hg.below (var_lt gTab h) h

theorem Gr.cell {w w' : World} (hg : Gr w w') {a : Addr} {v : Value} (h : w.cell? a = some v) (hb : a.block < w.heap.size) : w'.cell? a = some v := by
  rw [hg.below.cell hb]; exact h
theorem Gr.size {w w' : World} (hg : Gr w w') : w.heap.size ≤ w'.heap.size := hg.below.size
theorem gr_grow (w : World) (n : Nat) (os : Array Obj) : Gr w (grow (w.drewN n) os) := ⟨n, os, rfl⟩

set_option maxHeartbeats 1000000 in
theorem text10_of (a : Int) (s d : ByteArray) (w : World) (h : s.size ≤ 64) (h0 : 0 ≤ a) (h1 : a ≤ 65535) (hd : d.size ≤ 20)
    (hI : ∀ w', Gr w w' → Calls Tryd.prog 33 #[.int .i64 a] w' fun e w'' => e = .returned (.string d) ∧ Gr w' w'') :
    Calls Tryd.prog 10 #[.agg #[.int .u16 a, .string s]] w fun e w' => e = .returned (.tuple #[.string (d ++ ⟨#[58]⟩ ++ s), .int .i64 0]) ∧ Gr w w' := by
  have mixed : Tryd.prog.follows .mixedOrders = true := by kernel_rfl
  have hwr : IntKind.i64.wrap a = a := by rw [IntKind.wrap_i64]; omega
  have e1 : ∀ w, (Op.stringOp .add d ⟨#[58]⟩).run Tryd.prog w = .ok (.string (d ++ ⟨#[58]⟩)) w := fun w => run_string_add_sum w _ _ (by have : (ByteArray.mk #[58]).size = 1 := rfl; omega)
  have e2 : ∀ w, (Op.stringOp .add (d ++ ⟨#[58]⟩) s).run Tryd.prog w = .ok (.string (d ++ ⟨#[58]⟩ ++ s)) w := fun w => run_string_add_sum w _ _ (by rw [ByteArray.size_append]; have : (ByteArray.mk #[58]).size = 1 := rfl; omega)
  have HI : Hid _ := hI
  clear hI
  go_enter Tryd.func10, Tryd.ntmps10
  go_wp2_with (go_at_call 13; refine (check13_ok _ _ _ h).mono ?_; rintro e w1 ⟨rfl, hg⟩)
  have f0 : ∀ n os, (grow (w1.drewN n) os).cell? ⟨w.heap.size, 0, none⟩ = some (.int .u16 a) := fun n os => (hg.grow n os).cell (by simp) (by simp)
  have f1 : ∀ n os, (grow (w1.drewN n) os).cell? ⟨w.heap.size, 1, none⟩ = some (.string s) := fun n os => (hg.grow n os).cell (by simp) (by simp)
  have G : Hid (Gr w w1) := ((Gr.refl _).alloc _).trans hg
  clear hg
  go_quiet_grown (first | (go_at_call 33; refine Calls.grown_of (HI.out _ (G.out.grow _ _))))
  go_wp2
  go_ret2
  exact ⟨rfl, G.out.grow _ _⟩

theorem text10_no (a : Int) (s : ByteArray) (w : World) (h : 64 < s.size) :
    Calls Tryd.prog 10 #[.agg #[.int .u16 a, .string s]] w fun e w' => e = .returned (.tuple #[.string ⟨#[]⟩, .int .i64 20]) ∧ Gr w w' := by
  go_enter Tryd.func10, Tryd.ntmps10
  go_wp2_with (go_at_call 13; refine (check13_no _ _ _ h).mono ?_; rintro e w1 ⟨rfl, hg⟩)
  go_ret2
  exact ⟨rfl, ((Gr.refl _).alloc _).trans hg⟩

def itoaB (a : Int) : ByteArray := ⟨(Lib.itoa a).toArray⟩
theorem itoaB_size (a : Int) (h0 : 0 ≤ a) (h1 : a ≤ 65535) : (itoaB a).size ≤ 20 := by
  show (Lib.itoa a).toArray.size ≤ 20
  unfold Lib.itoa
  rw [if_neg (by omega), List.size_toArray, Lib.decDigits_length]
  have : ∀ n, ∀ u, u < 10 ^ (n + 1) → Lib.nDigits u ≤ n + 1 := by
    intro n
    induction n with
    | zero => intro u hu; rw [Lib.nDigits_small (by omega)]; omega
    | succ n ih =>
      intro u hu
      by_cases h : u < 10
      · rw [Lib.nDigits_small h]; omega
      · rw [Lib.nDigits_big h]
        have := ih (u / 10) (by rw [Nat.pow_succ] at hu; omega)
        omega
  have := this 4 a.toNat (by omega)
  omega
theorem text10_ok (a : Int) (s : ByteArray) (w : World) (h : s.size ≤ 64) (h0 : 0 ≤ a) (h1 : a ≤ 65535) (ht : Tab w) :
    Calls Tryd.prog 10 #[.agg #[.int .u16 a, .string s]] w fun e w' => e = .returned (.tuple #[.string (itoaB a ++ ⟨#[58]⟩ ++ s), .int .i64 0]) ∧ Gr w w' :=
  text10_of a s _ w h h0 h1 (itoaB_size a h0 h1) fun w' hg => Tryd.strconv_Itoa a (by omega) (by omega) w' (ht.gr hg)
theorem text10_seven (w : World) :
    Calls Tryd.prog 10 #[.agg #[.int .u16 7, .string ⟨#[97, 58, 98]⟩]] w fun e w' => e = .returned (.tuple #[.string ⟨#[55, 58, 97, 58, 98]⟩, .int .i64 0]) ∧ Gr w w' :=
  text10_of 7 ⟨#[97, 58, 98]⟩ ⟨#[55]⟩ w (by decide) (by decide) (by decide) (by decide) fun w' hg => (Tryd.strconv_Itoa_small 7 (by decide) w').mono fun e w'' ⟨he, hw⟩ => ⟨by rw [he]; rw [Lib.decDigits_one (by decide)]; rfl, by rw [hw]; exact Gr.refl _⟩

set_option maxHeartbeats 1000000 in
theorem awake9 (w : World) : Calls Tryd.prog 9 #[] w fun e w' => e = .returned (.bool true) ∧ Gr w w' := by
  have hc : cmpK 1 ⟨#[]⟩ 2 ⟨#[]⟩ = -1 := rfl
  go_enter Tryd.func9, Tryd.ntmps9
  go_wp2_with fail
  refine (text10_seven _).mono ?_
  rintro e w1 ⟨rfl, hg⟩
  go_wp2_with (go_at_call 31; refine (compare31 1 2 ⟨#[]⟩ ⟨#[]⟩ _).mono ?_; rintro e w2 ⟨rfl, hg2⟩)
  go_ret
  exact ⟨rfl, hg.trans hg2⟩
end Go.Proofs.YtbaljfkjgfkdiaaDoor
