/- What a line leans on, numbers told, and a number's part of a line; no conditions but those that each states. -/
import Derived.Test.YtlffleigahfdlaaGreatDoorFkd
import Derived.Test.YtlffleigahfdlaaGreatDoorEvk
import Derived.Test.YtlffleigahfdlaaGreatDoorEpe
import Derived.Test.YtlffleigahfdlaaGreatDoorShx
import Derived.Lib.ItoaLen
namespace Go.Proofs.YtlffleigahfdlaaGreatDoor.Tr
open Go.RowKit Go.Sort Go.Shelf Go.Maps Go.ChangeMaps
open Go.Proofs.YtlffleigahfdlaaGreatDoor.Kt (Gr gr_grow textB itoaB)
set_option linter.unusedVariables false
set_option linter.unusedSimpArgs false
def Tab (w : World) : Prop := Lib.TabIs Tryz.prog w "internal/strconv.uint64pow10" .u64 Lib.pow10Tab
theorem var_lt {w : World} {name : String} {cs : Array Value} {g : Nat} (hg : Tryz.prog.globalNamed name = some g) (hv : w.var? Tryz.prog name = some cs) : g < w.heap.size := by
  unfold World.var? at hv
  rw [hg] at hv
  simp only [Option.bind_some] at hv
  by_cases h : g < w.heap.size
  · exact h
  · rw [Array.getElem?_eq_none (by omega)] at hv
    cases hv
theorem var_touch {w w' : World} {name : String} {cs : Array Value} {g : Nat} (hg : Tryz.prog.globalNamed name = some g) (h : Touch [] w w') (hv : w.var? Tryz.prog name = some cs) : w'.var? Tryz.prog name = some cs := by
  have hl := var_lt hg hv
  unfold World.var? at *
  rw [hg] at hv ⊢
  simp only [Option.bind_some] at hv ⊢
  rw [h.block g hl (by simp)]
  exact hv
theorem gTab : Tryz.prog.globalNamed "internal/strconv.uint64pow10" = some 2 := by kernel_rfl
theorem gSyn : Tryz.prog.globalNamed "strconv.ErrSyntax" = some 3 := by kernel_rfl
theorem gRan : Tryz.prog.globalNamed "strconv.ErrRange" = some 4 := by kernel_rfl
theorem Tab.touch {w w' : World} (h : Tab w) (t : Touch [] w w') : Tab w' := var_touch gTab t h
/-- the variables that lines lean on -/
structure Sy (w : World) : Prop where
  tk : Tk w
  tab : Tab w
  es : ∃ te pe, w.var? Tryz.prog "strconv.ErrSyntax" = some #[.iface te pe]
  er : ∃ te pe, w.var? Tryz.prog "strconv.ErrRange" = some #[.iface te pe]
  ml : ∃ m, w.cell? ⟨1, 0, none⟩ = some (.int .i64 m)
theorem Sy.touch {w w' : World} (h : Sy w) (t : Touch [] w w') : Sy w' := by
  obtain ⟨h0, h1, ⟨a, b, h2⟩, ⟨c, d, h3⟩, ⟨m, h4⟩⟩ := h
  exact ⟨h0.touch t, h1.touch t, ⟨a, b, var_touch gSyn t h2⟩, ⟨c, d, var_touch gRan t h3⟩, ⟨m, tcell t h4⟩⟩
def B64 (n : Int) : Prop := -9223372036854775808 ≤ n ∧ n ≤ 9223372036854775807
theorem fmt_ (n : Int) (h : B64 n) (w : World) (ht : Tab w) : Calls Tryz.prog 75 #[.int .i64 n, .int .i64 10] w fun e w' => e = .returned (.string ⟨(Lib.itoa n).toArray⟩) ∧ Touch [] w w' :=
  Calls.mono (Tryz.strconv_FormatInt_10 n h.1 h.2 w ht) fun e w' ⟨he, k, os, hw⟩ => ⟨he, by rw [hw]; exact (gr_grow w k os).touch⟩
theorem itoa_ (n : Int) (h : B64 n) (w : World) (ht : Tab w) : Calls Tryz.prog 79 #[.int .i64 n] w fun e w' => e = .returned (.string ⟨(Lib.itoa n).toArray⟩) ∧ Touch [] w w' :=
  Calls.mono (Tryz.strconv_Itoa n h.1 h.2 w ht) fun e w' ⟨he, k, os, hw⟩ => ⟨he, by rw [hw]; exact (gr_grow w k os).touch⟩
theorem it_len {n : Int} (h : B64 n) : (Lib.itoa n).length ≤ 21 := Lib.itoa_length_le n h.1 h.2
theorem it_size {n : Int} (h : B64 n) : (⟨(Lib.itoa n).toArray⟩ : ByteArray).size ≤ 21 := by
  show (Lib.itoa n).toArray.size ≤ 21
  rw [List.size_toArray]; exact it_len h
/-- a letter and a number, where that is not 0 -/
def numP (c : UInt8) (n : Int) : List UInt8 := if n = 0 then [] else 32 :: c :: Lib.itoa n
theorem numP_len {c : UInt8} {n : Int} (h : B64 n) : (numP c n).length ≤ 23 := by
  unfold numP
  split
  · simp
  · have := it_len h
    simp only [List.length_cons]
    omega
theorem wnum_ {B b : Nat} {l : List UInt8} {w : World} (h : Bd B b l w) (c : UInt8) (n : Int) (hn : B64 n) (hl : l.length ≤ 1000000) (ht : Tab w) :
    Calls Tryz.prog 77 #[PT b, .int .u8 c.toNat, .int .i64 n] w fun e w' => e = .returned (.tuple #[]) ∧ Bd B b (l ++ numP c n) w' ∧ Wr B b w w' := by
  by_cases h0 : n = 0
  · subst h0
    refine (wnum0_ b _ w).mono ?_
    rintro e w' ⟨he, hw⟩
    subst hw
    exact ⟨he, by rw [numP, if_pos rfl, List.append_nil]; exact h, Wr.refl _ _ _⟩
  · have H1 : Hid _ := fmt_ n hn w ht
    have hz := it_size hn
    have H2 : Hid (∀ w', Touch [] w w' → _) := fun w' t => wpart_ (h.touch t) c ⟨(Lib.itoa n).toArray⟩ (by omega) (by omega)
    have HP : Hid (numP c n = 32 :: c :: Lib.itoa n) := if_neg h0
    have HB : Hid (B ≤ w.heap.size) := h.2.1
    have hb : (n != 0) = true := by simpa using h0
    unfold PT at *
    clear h hl hz hn ht h0
    go_enter Tryz.func77, Tryz.ntmps77
    go_wp2_with fail
    refine Calls.mono H1.out ?_
    rintro e w1 ⟨rfl, t1⟩
    have T1 := hid t1
    clear t1 H1
    go_wp2_with fail
    refine (H2.out _ T1.out).mono ?_
    rintro e w2 ⟨rfl, q2, r2⟩
    have Q2 : Hid _ := And.intro q2 r2
    clear q2 r2
    go_wp2_with fail
    go_end0
    exact ⟨rfl, by rw [HP.out]; exact Q2.out.1, ((Wr.refl B b w).touch T1.out HB.out).trans Q2.out.2⟩
end Go.Proofs.YtlffleigahfdlaaGreatDoor.Tr
