/- The contracts of setAfter and setBefore; the map has the item. -/
import Derived.Test.YtmbjjkdocmcpdaaOwn
namespace Go.Proofs.Ytmbjjkdocmcpdaa
open Go.RowKit Go.Maps Go.ChangeMaps
set_option linter.unusedVariables false

def TC (w : World) (q : Nat) (f l : Int) (m : Option Nat) : Prop := w.heap[q]? = some (.cells #[.int .i64 f, .int .i64 l, .map m] 79 (0, 0))
theorem TC.c0 {w : World} {q : Nat} {f l : Int} {m : Option Nat} (h : TC w q f l m) : w.cell? ⟨q, 0, none⟩ = some (.int .i64 f) := by unfold TC at h; simp [World.cell?, h]
theorem TC.c1 {w : World} {q : Nat} {f l : Int} {m : Option Nat} (h : TC w q f l m) : w.cell? ⟨q, 1, none⟩ = some (.int .i64 l) := by unfold TC at h; simp [World.cell?, h]
theorem TC.c2 {w : World} {q : Nat} {f l : Int} {m : Option Nat} (h : TC w q f l m) : w.cell? ⟨q, 2, none⟩ = some (.map m) := by unfold TC at h; simp [World.cell?, h]
theorem TC.fr {w : World} {q : Nat} {f l : Int} {m : Option Nat} (h : TC w q f l m) (i : Nat) : w.frozen? ⟨q, i, none⟩ = false := by unfold TC at h; simp [World.frozen?, h]
def lnk (be af : Int) : Value := .agg #[.int .i64 be, .int .i64 af]
set_option maxHeartbeats 2000000 in
theorem setAfter42 (w : World) (q b n : Nat) (f l : Int) (g : Int → Option Value) (k be af x : Int) (hc : TC w q f l (some b)) (hm : MapAt w b n g) (hk : W64 k) (hg : g k = some (lnk be af)) (hn : n < maxLen) :
    Calls Try.prog 45 #[.pointer (some ⟨q, 0, none⟩), .int .i64 k, .int .i64 x] w fun e w' => e = .returned (.tuple #[]) ∧ Touch [b] w w' ∧ MapAt w' b n (upd g k (lnk be x)) := by
  have c2 := hc.c2
  have hl := hm.look (t := 77) Try.underlying77 (zero79 w) hk
  rw [hg] at hl
  simp only [Option.getD_some, lnk] at hl
  go_enter Try.func45, Try.ntmps45
  go_wp2
  have hm' : MapAt (w.alloc (.cells #[.int .i64 be, .int .i64 x] 76)).drew b n g := hm.kept (Below.heap_alloc _ _ _ hm.lt)
  obtain ⟨o, hu, hm2⟩ := hm'.set (t := 77) Try.underlying77 hn hk (lnk be x)
  have HT : Hid (Touch [b] w (setBlock (w.alloc (.cells #[.int .i64 be, .int .i64 x] 76)).drew b o)) := touch_setBlock ((Touch.refl _ _).alloc _).drew (by simp) o
  have HM : Hid (MapAt (setBlock (w.alloc (.cells #[.int .i64 be, .int .i64 x] 76)).drew b o) b n (upd g k (lnk be x))) := by
    rw [hg] at hm2
    exact hm2
  clear hm hm' hm2
  have cn0 : (w.alloc (.cells #[.int .i64 be, .int .i64 x] 76)).cell? ⟨w.heap.size, 0, none⟩ = some (.int .i64 be) := by simp
  have cn1 : (w.alloc (.cells #[.int .i64 be, .int .i64 x] 76)).cell? ⟨w.heap.size, 1, none⟩ = some (.int .i64 x) := by simp
  have cq : (w.alloc (.cells #[.int .i64 be, .int .i64 x] 76)).cell? ⟨q, 2, none⟩ = some (.map (some b)) := by
    rw [World.cell?_of_block (Below.heap_alloc w _ q (block_lt hc))]; exact c2
  simp only [lnk] at hu
  generalize setBlock (w.alloc (.cells #[.int .i64 be, .int .i64 x] 76)).drew b o = W2 at *
  generalize (w.alloc (.cells #[.int .i64 be, .int .i64 x] 76)) = W1 at *
  go_region
  go_end0
  exact ⟨rfl, HT.out, HM.out⟩
set_option maxHeartbeats 2000000 in
theorem setBefore43 (w : World) (q b n : Nat) (f l : Int) (g : Int → Option Value) (k be af x : Int) (hc : TC w q f l (some b)) (hm : MapAt w b n g) (hk : W64 k) (hg : g k = some (lnk be af)) (hn : n < maxLen) :
    Calls Try.prog 46 #[.pointer (some ⟨q, 0, none⟩), .int .i64 k, .int .i64 x] w fun e w' => e = .returned (.tuple #[]) ∧ Touch [b] w w' ∧ MapAt w' b n (upd g k (lnk x af)) := by
  have c2 := hc.c2
  have hl := hm.look (t := 77) Try.underlying77 (zero79 w) hk
  rw [hg] at hl
  simp only [Option.getD_some, lnk] at hl
  go_enter Try.func46, Try.ntmps46
  go_wp2
  have hm' : MapAt (w.alloc (.cells #[.int .i64 x, .int .i64 af] 76)).drew b n g := hm.kept (Below.heap_alloc _ _ _ hm.lt)
  obtain ⟨o, hu, hm2⟩ := hm'.set (t := 77) Try.underlying77 hn hk (lnk x af)
  have HT : Hid (Touch [b] w (setBlock (w.alloc (.cells #[.int .i64 x, .int .i64 af] 76)).drew b o)) := touch_setBlock ((Touch.refl _ _).alloc _).drew (by simp) o
  have HM : Hid (MapAt (setBlock (w.alloc (.cells #[.int .i64 x, .int .i64 af] 76)).drew b o) b n (upd g k (lnk x af))) := by
    rw [hg] at hm2
    exact hm2
  clear hm hm' hm2
  have cn0 : (w.alloc (.cells #[.int .i64 x, .int .i64 af] 76)).cell? ⟨w.heap.size, 0, none⟩ = some (.int .i64 x) := by simp
  have cn1 : (w.alloc (.cells #[.int .i64 x, .int .i64 af] 76)).cell? ⟨w.heap.size, 1, none⟩ = some (.int .i64 af) := by simp
  have cq : (w.alloc (.cells #[.int .i64 x, .int .i64 af] 76)).cell? ⟨q, 2, none⟩ = some (.map (some b)) := by
    rw [World.cell?_of_block (Below.heap_alloc w _ q (block_lt hc))]; exact c2
  simp only [lnk] at hu
  generalize setBlock (w.alloc (.cells #[.int .i64 x, .int .i64 af] 76)).drew b o = W2 at *
  generalize (w.alloc (.cells #[.int .i64 x, .int .i64 af] 76)) = W1 at *
  go_region
  go_end0
  exact ⟨rfl, HT.out, HM.out⟩
end Go.Proofs.Ytmbjjkdocmcpdaa
