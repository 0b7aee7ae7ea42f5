/- An event's line in plain words, and what stands between its parts; no conditions. -/
import Derived.Test.YtlffleigahfdlaaGreatDoorFfa
namespace Go.Proofs.YtlffleigahfdlaaGreatDoor.Tr
open Go.RowKit Go.Sort Go.Shelf Go.Maps Go.ChangeMaps
open Go.Proofs.YtlffleigahfdlaaGreatDoor.Kt (Gr gr_grow textB itoaB)
set_option linter.unusedVariables false
set_option linter.unusedSimpArgs false
def lC : Nat → UInt8
  | 0 => 99 | 1 => 110 | 2 => 114 | 3 => 103 | _ => 104
def headP (t : Int) (k : Nat) : List UInt8 := Lib.itoa t ++ 32 :: (wdS k).data.toList
def numsP (e : Ez) (l : List UInt8) : Nat → List UInt8
  | 0 => l
  | j + 1 => numsP e l j ++ numP (lC j) (fN e j)
def failP (a b c : Int) : List UInt8 := if nonF a b c then [] else 32 :: 102 :: (Lib.itoa a ++ 58 :: (Lib.itoa b ++ 58 :: Lib.itoa c))
def keyP (sp : Int) (nm : ByteArray) : List UInt8 := if zeroK sp nm then [] else 32 :: 107 :: maskL (textB sp.toNat nm).data.toList
/-- the line of an event that may be -/
def lnL (e : Ez) : List UInt8 := numsP e (headP e.at_ e.kd.toNat) 5 ++ numP 118 e.va ++ failP e.fk e.fc e.fr ++ keyP e.sp e.nm
structure Ok64 (e : Ez) : Prop where
  at_ : B64 e.at_
  cl : B64 e.cl
  ca : B64 e.ca
  ru : B64 e.ru
  ge : B64 e.ge
  ho : B64 e.ho
  va : B64 e.va
  fk : B64 e.fk
  fc : B64 e.fc
  fr : B64 e.fr
theorem Ok64.fN {e : Ez} (h : Ok64 e) (j : Nat) : B64 (fN e j) := by
  unfold Tr.fN
  split
  · exact h.cl
  · exact h.ca
  · exact h.ru
  · exact h.ge
  · exact h.ho
theorem wdS_size (k : Nat) : (wdS k).size ≤ 7 := by
  unfold wdS
  split <;> decide
theorem headP_len {t : Int} {k : Nat} (h : B64 t) : (headP t k).length ≤ 40 := by
  unfold headP
  have := it_len h
  have h2 := wdS_size k
  have h3 : (wdS k).data.toList.length = (wdS k).size := rfl
  simp only [List.length_append, List.length_cons]
  omega
theorem numsP_len {e : Ez} {l : List UInt8} (h : Ok64 e) : ∀ j, (numsP e l j).length ≤ l.length + 23 * j
  | 0 => by simp [numsP]
  | j + 1 => by
    have := numsP_len h (l := l) j
    have h2 := numP_len (c := lC j) (h.fN j)
    simp only [numsP, List.length_append]
    omega
theorem headP_ne (t : Int) (k : Nat) : headP t k ≠ [] := by
  unfold headP
  simp
theorem failP_len {a b c : Int} (h1 : B64 a) (h2 : B64 b) (h3 : B64 c) : (failP a b c).length ≤ 67 := by
  unfold failP
  split
  · simp
  · have := it_len h1
    have := it_len h2
    have := it_len h3
    simp only [List.length_cons, List.length_append]
    omega
/-- Between the parts of a line: the builder behind the event's box holds bytes. -/
structure Lv (w : World) (e : Ez) (L : List UInt8) (w' : World) : Prop where
  bd : Bd (w.heap.size + 1) (w.heap.size + 1) L w'
  tt : Touch [] w w'
  bx : w'.heap[w.heap.size]? = some (.cells #[.int .i64 e.at_, .int .i64 e.kd, .int .i64 e.cl, .int .i64 e.ca, .int .i64 e.ru, .int .i64 e.ge, .int .i64 e.ho, .int .u16 e.sp, .string e.nm, .int .i64 e.va, .int .i64 e.fk, .int .i64 e.fc, .int .i64 e.fr] 30 (0, 0))
theorem Lv.touch {w : World} {e : Ez} {L : List UInt8} {w1 w2 : World} (h : Lv w e L w1) (t : Touch [] w1 w2) : Lv w e L w2 :=
  ⟨h.bd.touch t, h.tt.trans' t, t.keep h.bx (by simp)⟩
theorem tt_wr {w w1 w2 : World} {n : Nat} (t : Touch [] w w1) (g : Wr n n w1 w2) (hn : w.heap.size ≤ n) : Touch [] w w2 :=
  ⟨g.below.os.trans t.os, g.below.tape.trans t.tape, g.below.output.trans t.output, Nat.le_trans t.size g.below.size, fun k hk _ => (g.below.block k (by omega)).trans (t.block k hk (by simp))⟩
theorem Lv.wr {w : World} {e : Ez} {L L' : List UInt8} {w1 w2 : World} (h : Lv w e L w1) (b : Bd (w.heap.size + 1) (w.heap.size + 1) L' w2) (g : Wr (w.heap.size + 1) (w.heap.size + 1) w1 w2) : Lv w e L' w2 :=
  ⟨b, tt_wr h.tt g (by omega), g.keep _ _ h.bx (by omega) (fun c fz e => by simp at e)⟩
theorem Lv.ib {w : World} {e : Ez} {L : List UInt8} {w1 : World} (h : Lv w e L w1) : Ib w1 w.heap.size e := by
  have := h.bx
  exact ⟨cell_at this (j := 0) rfl, cell_at this (j := 1) rfl, cell_at this (j := 2) rfl, cell_at this (j := 3) rfl, cell_at this (j := 4) rfl, cell_at this (j := 5) rfl, cell_at this (j := 6) rfl, cell_at this (j := 7) rfl, cell_at this (j := 8) rfl, cell_at this (j := 9) rfl, cell_at this (j := 10) rfl, cell_at this (j := 11) rfl, cell_at this (j := 12) rfl⟩
theorem Lv.lt {w : World} {e : Ez} {L : List UInt8} {w1 : World} (h : Lv w e L w1) : w.heap.size + 1 < w1.heap.size := h.bd.2.2
theorem nef (w : World) (a b c : Int) : (binOp .neq 26 (.agg #[.int .i64 a, .int .i64 b, .int .i64 c]) (.agg #[.int .i64 0, .int .i64 0, .int .i64 0])).run Tryz.prog w = .ok (.bool (!nonF a b c)) w := by
  unfold nonF
  by_cases h1 : a = 0
  · by_cases h2 : b = 0
    · by_cases h3 : c = 0
      · go_simp
      · go_simp
    · go_simp
  · go_simp
theorem nek (w : World) (sp : Int) (nm : ByteArray) : (binOp .neq 24 (.agg #[.int .u16 sp, .string nm]) (.agg #[.int .u16 0, .string ⟨#[]⟩])).run Tryz.prog w = .ok (.bool (!zeroK sp nm)) w := by
  unfold zeroK
  by_cases h0 : sp = 0
  · by_cases h1 : nm.toList = []
    · go_simp
    · go_simp
  · go_simp
theorem ktext_ (sp : Nat) (nm : ByteArray) (hs : sp ≤ 65535) (hn : nm.size ≤ 64) (w : World) (ht : Tab w) : Calls Tryz.prog 80 #[.agg #[.int .u16 sp, .string nm]] w fun e w' => e = .returned (.tuple #[.string (textB sp nm), .int .i64 0]) ∧ Touch [] w w' :=
  (Kt.text10_of sp nm (itoaB sp) w hn (by omega) (by omega) (Kt.itoaB_len sp (by omega)) (fun w' hg => Calls.mono (Tryz.strconv_Itoa sp (by omega) (by omega) w' (ht.touch hg.touch)) fun e w'' ⟨he, k, os, hw⟩ => ⟨he, by rw [hw]; exact gr_grow w' k os⟩)).mono fun e w' ⟨he, hg⟩ => ⟨he, hg.touch⟩
end Go.Proofs.YtlffleigahfdlaaGreatDoor.Tr
