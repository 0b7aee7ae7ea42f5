/- Events in plain words: which may be; no conditions. -/
import Derived.Test.YtlffleigahfdlaaGreatDoorRgt
import Derived.Test.YtlffleigahfdlaaGreatDoorRsl
namespace Go.Proofs.YtlffleigahfdlaaGreatDoor.Tr
open Go.RowKit Go.Maps Go.ChangeMaps
set_option linter.unusedVariables false
theorem cell_lt {w : World} {a : Addr} {v : Value} (h : w.cell? a = some v) : a.block < w.heap.size := by
  rcases Nat.lt_or_ge a.block w.heap.size with h' | h'
  · exact h'
  · simp [World.cell?, Array.getElem?_eq_none h'] at h
theorem tcell {w w' : World} (t : Touch [] w w') {a : Addr} {v : Value} (h : w.cell? a = some v) : w'.cell? a = some v := by
  rw [World.cell?_of_block (t.block a.block (cell_lt h) (by simp))]; exact h
theorem tfz {w w' : World} (t : Touch [] w w') {a : Addr} (h : w.frozen? a = false) (hb : a.block < w.heap.size) : w'.frozen? a = false := by
  rw [World.frozen?_of_block (t.block a.block hb (by simp))]; exact h
theorem mixed : Tryz.prog.follows .mixedOrders = true := by kernel_rfl
/-- the letters of what a kind names -/
def nmT : Nat → List UInt8
  | 1 => [99, 110, 114, 104, 118, 107] | 2 => [114, 103, 104, 107] | 3 => [114] | 4 => [99, 110, 114, 118, 107] | 5 => [114, 103, 118, 107] | 6 => [114, 103, 107] | 7 => [114, 103, 107]
  | 8 => [99, 103, 107] | 9 => [114, 118, 107] | 10 => [107] | 11 => [99, 110, 114, 118, 107] | _ => []
def nmS (k : Nat) : ByteArray := ⟨(nmT k).toArray⟩
def isK (k : Int) : Bool := decide (1 ≤ k ∧ k ≤ 11)
def nmB (k c : Int) : Bool := isK k && (nmT k.toNat).contains (UInt8.ofNat c.toNat)
/-- An event. -/
structure Ez where
  at_ : Int
  kd : Int
  cl : Int
  ca : Int
  ru : Int
  ge : Int
  ho : Int
  sp : Int
  nm : ByteArray
  va : Int
  fk : Int
  fc : Int
  fr : Int
def Ez.cells (e : Ez) : List Value := [.int .i64 e.at_, .int .i64 e.kd, .int .i64 e.cl, .int .i64 e.ca, .int .i64 e.ru, .int .i64 e.ge, .int .i64 e.ho, .int .u16 e.sp, .string e.nm, .int .i64 e.va, .int .i64 e.fk, .int .i64 e.fc, .int .i64 e.fr]
def Ez.val (e : Ez) : Value := .agg #[.int .i64 e.at_, .int .i64 e.kd, .int .i64 e.cl, .int .i64 e.ca, .int .i64 e.ru, .int .i64 e.ge, .int .i64 e.ho, .int .u16 e.sp, .string e.nm, .int .i64 e.va, .int .i64 e.fk, .int .i64 e.fc, .int .i64 e.fr]
def Ez.out (e : Ez) : O := (e.va, e.fk, e.fc, e.fr)
def e0 : Ez := ⟨0, 0, 0, 0, 0, 0, 0, 0, ⟨#[]⟩, 0, 0, 0, 0⟩
structure Ez.ok (e : Ez) : Prop where
  at_ : W64 e.at_
  kd : W64 e.kd
  cl : W64 e.cl
  ca : W64 e.ca
  ru : W64 e.ru
  ge : W64 e.ge
  ho : W64 e.ho
  sp : (Lit.int .u16 e.sp).wf = true
  nm : e.nm.size ≤ maxLen
  va : W64 e.va
  fk : W64 e.fk
  fc : W64 e.fc
  fr : W64 e.fr
def numB (k c n : Int) : Bool := decide (n = 0) || (decide (0 < n) && nmB k c)
def outB (k : Int) (o : O) : Bool := if nmB k 118 then right o else decide (o.1 = 0) && nonF o.2.1 o.2.2.1 o.2.2.2
def zeroK (sp : Int) (nm : ByteArray) : Bool := decide (sp = 0) && decide (nm.toList = [])
def keyB (k sp : Int) (nm : ByteArray) : Bool := if nmB k 107 then decide (nm.size ≤ 64) else zeroK sp nm
def numsB (e : Ez) : Bool := (numB e.kd 99 e.cl && (numB e.kd 110 e.ca && (numB e.kd 114 e.ru && (numB e.kd 103 e.ge && numB e.kd 104 e.ho)))) && decide (e.ho ≤ 6)
def atB (t : Int) : Bool := decide (0 ≤ t ∧ t ≤ 4611686018427387904)
/-- may an event be? -/
def chkE (e : Ez) : Bool := atB e.at_ && (isK e.kd && (numsB e && (outB e.kd e.out && keyB e.kd e.sp e.nm)))
def chkN (e : Ez) : Int := if chkE e then 0 else 240
end Go.Proofs.YtlffleigahfdlaaGreatDoor.Tr
