/- What a line leans on, numbers told, and a number's part of a line; no conditions but those that each states. -/
import Derived.Test.YtlffleigahfdlaaGreatDoorMa2
import Derived.Test.YtlffleigahfdlaaGreatDoorEvk
import Derived.Test.YtlffleigahfdlaaGreatDoorEpe
import Derived.Test.YtlffleigahfdlaaGreatDoorShx
import Derived.Lib.ItoaLen
import Derived.Deep.CutRange
import Derived.Deep.CutBlock
namespace Go.Proofs.YtlffleigahfdlaaGreatDoor.Tr
open Go.RowKit Go.Sort Go.Shelf Go.Maps Go.ChangeMaps
open Go.Proofs.YtlffleigahfdlaaGreatDoor.Kt (Gr gr_grow textB itoaB)
set_option linter.unusedVariables false
set_option linter.unusedSimpArgs false
def Tab (w : World) : Prop := Lib.TabIs Tryz.prog w "internal/strconv.uint64pow10" .u64 Lib.pow10Tab
theorem var_lt {w : World} {name : String} {cs : Array Value} {g : Nat} (hg : Tryz.prog.globalNamed name = some g) (hv : w.var? Tryz.prog name = some cs) : g < w.heap.size := by
  unfold World.var? at hv
  rw [hg] at hv
  simp only [Option.bind_some] at hv
  by_cases h : g < w.heap.size
  · exact h
  · rw [Array.getElem?_eq_none (by omega)] at hv
    cases hv
theorem var_touch {w w' : World} {name : String} {cs : Array Value} {g : Nat} (hg : Tryz.prog.globalNamed name = some g) (h : Touch [] w w') (hv : w.var? Tryz.prog name = some cs) : w'.var? Tryz.prog name = some cs := by
  have hl := var_lt hg hv
  unfold World.var? at *
  rw [hg] at hv ⊢
  simp only [Option.bind_some] at hv ⊢
  rw [h.block g hl (by simp)]
  exact hv
theorem gTab : Tryz.prog.globalNamed "internal/strconv.uint64pow10" = some 2 := by kernel_rfl
theorem gSyn : Tryz.prog.globalNamed "strconv.ErrSyntax" = some 3 := by kernel_rfl
theorem gRan : Tryz.prog.globalNamed "strconv.ErrRange" = some 4 := by kernel_rfl
theorem Tab.touch {w w' : World} (h : Tab w) (t : Touch [] w w') : Tab w' := var_touch gTab t h
/-- the variables that lines lean on -/
structure Sy (w : World) : Prop where
  tk : Tk w
  tab : Tab w
  es : ∃ te pe, w.var? Tryz.prog "strconv.ErrSyntax" = some #[.iface te pe]
  er : ∃ te pe, w.var? Tryz.prog "strconv.ErrRange" = some #[.iface te pe]
  ml : ∃ m, w.cell? ⟨1, 0, none⟩ = some (.int .i64 m)
theorem Sy.touch {w w' : World} (h : Sy w) (t : Touch [] w w') : Sy w' := by
  obtain ⟨h0, h1, ⟨a, b, h2⟩, ⟨c, d, h3⟩, ⟨m, h4⟩⟩ := h
  exact ⟨h0.touch t, h1.touch t, ⟨a, b, var_touch gSyn t h2⟩, ⟨c, d, var_touch gRan t h3⟩, ⟨m, tcell t h4⟩⟩
def B64 (n : Int) : Prop := -9223372036854775808 ≤ n ∧ n ≤ 9223372036854775807
theorem fmt_ (n : Int) (h : B64 n) (w : World) (ht : Tab w) : Calls Tryz.prog 75 #[.int .i64 n, .int .i64 10] w fun e w' => e = .returned (.string ⟨(Lib.itoa n).toArray⟩) ∧ Touch [] w w' :=
  Calls.mono (Tryz.strconv_FormatInt_10 n h.1 h.2 w ht) fun e w' ⟨he, k, os, hw⟩ => ⟨he, by rw [hw]; exact (gr_grow w k os).touch⟩
theorem itoa_ (n : Int) (h : B64 n) (w : World) (ht : Tab w) : Calls Tryz.prog 79 #[.int .i64 n] w fun e w' => e = .returned (.string ⟨(Lib.itoa n).toArray⟩) ∧ Touch [] w w' :=
  Calls.mono (Tryz.strconv_Itoa n h.1 h.2 w ht) fun e w' ⟨he, k, os, hw⟩ => ⟨he, by rw [hw]; exact (gr_grow w k os).touch⟩
theorem it_len {n : Int} (h : B64 n) : (Lib.itoa n).length ≤ 21 := Lib.itoa_length_le n h.1 h.2
theorem it_size {n : Int} (h : B64 n) : (⟨(Lib.itoa n).toArray⟩ : ByteArray).size ≤ 21 := by
  show (Lib.itoa n).toArray.size ≤ 21
  rw [List.size_toArray]; exact it_len h
/-- a letter and a number, where that is not 0 -/
def numP (c : UInt8) (n : Int) : List UInt8 := if n = 0 then [] else 32 :: c :: Lib.itoa n
theorem numP_len {c : UInt8} {n : Int} (h : B64 n) : (numP c n).length ≤ 23 := by
  unfold numP
  split
  · simp
  · have := it_len h
    simp only [List.length_cons]
    omega
theorem wnum_ {B b : Nat} {l : List UInt8} {w : World} (h : Bd B b l w) (c : UInt8) (n : Int) (hn : B64 n) (hl : l.length ≤ 1000000) (ht : Tab w) :
    Calls Tryz.prog 77 #[PT b, .int .u8 c.toNat, .int .i64 n] w fun e w' => e = .returned (.tuple #[]) ∧ Bd B b (l ++ numP c n) w' ∧ Wr B b w w' := by
  by_cases h0 : n = 0
  · subst h0
    refine (wnum0_ b _ w).mono ?_
    rintro e w' ⟨he, hw⟩
    subst hw
    exact ⟨he, by rw [numP, if_pos rfl, List.append_nil]; exact h, Wr.refl _ _ _⟩
  · have H1 : Hid _ := fmt_ n hn w ht
    have hz := it_size hn
    have H2 : Hid (∀ w', Touch [] w w' → _) := fun w' t => wpart_ (h.touch t) c ⟨(Lib.itoa n).toArray⟩ (by omega) (by omega)
    have HP : Hid (numP c n = 32 :: c :: Lib.itoa n) := if_neg h0
    have HB : Hid (B ≤ w.heap.size) := h.2.1
    have hb : (n != 0) = true := by simpa using h0
    unfold PT at *
    clear h hl hz hn ht h0
    go_enter Tryz.func77, Tryz.ntmps77
    go_wp2_with fail
    refine Calls.mono H1.out ?_
    rintro e w1 ⟨rfl, t1⟩
    have T1 := hid t1
    clear t1 H1
    go_wp2_with fail
    refine (H2.out _ T1.out).mono ?_
    rintro e w2 ⟨rfl, q2, r2⟩
    have Q2 : Hid _ := And.intro q2 r2
    clear q2 r2
    go_wp2_with fail
    go_end0
    exact ⟨rfl, by rw [HP.out]; exact Q2.out.1, ((Wr.refl B b w).touch T1.out HB.out).trans Q2.out.2⟩
end Go.Proofs.YtlffleigahfdlaaGreatDoor.Tr
/- An event's line in plain words, and what stands between its parts; no conditions. -/
namespace Go.Proofs.YtlffleigahfdlaaGreatDoor.Tr
open Go.RowKit Go.Sort Go.Shelf Go.Maps Go.ChangeMaps
open Go.Proofs.YtlffleigahfdlaaGreatDoor.Kt (Gr gr_grow textB itoaB)
set_option linter.unusedVariables false
set_option linter.unusedSimpArgs false
def lC : Nat → UInt8
  | 0 => 99 | 1 => 110 | 2 => 114 | 3 => 103 | _ => 104
def headP (t : Int) (k : Nat) : List UInt8 := Lib.itoa t ++ 32 :: (wdS k).data.toList
def numsP (e : Ez) (l : List UInt8) : Nat → List UInt8
  | 0 => l
  | j + 1 => numsP e l j ++ numP (lC j) (fN e j)
def failP (a b c : Int) : List UInt8 := if nonF a b c then [] else 32 :: 102 :: (Lib.itoa a ++ 58 :: (Lib.itoa b ++ 58 :: Lib.itoa c))
def keyP (sp : Int) (nm : ByteArray) : List UInt8 := if zeroK sp nm then [] else 32 :: 107 :: maskL (textB sp.toNat nm).data.toList
/-- the line of an event that may be -/
def lnL (e : Ez) : List UInt8 := numsP e (headP e.at_ e.kd.toNat) 5 ++ numP 118 e.va ++ failP e.fk e.fc e.fr ++ keyP e.sp e.nm
structure Ok64 (e : Ez) : Prop where
  at_ : B64 e.at_
  cl : B64 e.cl
  ca : B64 e.ca
  ru : B64 e.ru
  ge : B64 e.ge
  ho : B64 e.ho
  va : B64 e.va
  fk : B64 e.fk
  fc : B64 e.fc
  fr : B64 e.fr
theorem Ok64.fN {e : Ez} (h : Ok64 e) (j : Nat) : B64 (fN e j) := by
  unfold Tr.fN
  split
  · exact h.cl
  · exact h.ca
  · exact h.ru
  · exact h.ge
  · exact h.ho
theorem wdS_size (k : Nat) : (wdS k).size ≤ 7 := by
  unfold wdS
  split <;> decide
theorem headP_len {t : Int} {k : Nat} (h : B64 t) : (headP t k).length ≤ 40 := by
  unfold headP
  have := it_len h
  have h2 := wdS_size k
  have h3 : (wdS k).data.toList.length = (wdS k).size := rfl
  simp only [List.length_append, List.length_cons]
  omega
theorem numsP_len {e : Ez} {l : List UInt8} (h : Ok64 e) : ∀ j, (numsP e l j).length ≤ l.length + 23 * j
  | 0 => by simp [numsP]
  | j + 1 => by
    have := numsP_len h (l := l) j
    have h2 := numP_len (c := lC j) (h.fN j)
    simp only [numsP, List.length_append]
    omega
theorem headP_ne (t : Int) (k : Nat) : headP t k ≠ [] := by
  unfold headP
  simp
theorem failP_len {a b c : Int} (h1 : B64 a) (h2 : B64 b) (h3 : B64 c) : (failP a b c).length ≤ 67 := by
  unfold failP
  split
  · simp
  · have := it_len h1
    have := it_len h2
    have := it_len h3
    simp only [List.length_cons, List.length_append]
    omega
/-- Between the parts of a line: the builder behind the event's box holds bytes. -/
structure Lv (w : World) (e : Ez) (L : List UInt8) (w' : World) : Prop where
  bd : Bd (w.heap.size + 1) (w.heap.size + 1) L w'
  tt : Touch [] w w'
  bx : w'.heap[w.heap.size]? = some (.cells #[.int .i64 e.at_, .int .i64 e.kd, .int .i64 e.cl, .int .i64 e.ca, .int .i64 e.ru, .int .i64 e.ge, .int .i64 e.ho, .int .u16 e.sp, .string e.nm, .int .i64 e.va, .int .i64 e.fk, .int .i64 e.fc, .int .i64 e.fr] 30 (0, 0))
theorem Lv.touch {w : World} {e : Ez} {L : List UInt8} {w1 w2 : World} (h : Lv w e L w1) (t : Touch [] w1 w2) : Lv w e L w2 :=
  ⟨h.bd.touch t, h.tt.trans' t, t.keep h.bx (by simp)⟩
theorem tt_wr {w w1 w2 : World} {n : Nat} (t : Touch [] w w1) (g : Wr n n w1 w2) (hn : w.heap.size ≤ n) : Touch [] w w2 :=
  ⟨g.below.os.trans t.os, g.below.tape.trans t.tape, g.below.output.trans t.output, Nat.le_trans t.size g.below.size, fun k hk _ => (g.below.block k (by omega)).trans (t.block k hk (by simp))⟩
theorem Lv.wr {w : World} {e : Ez} {L L' : List UInt8} {w1 w2 : World} (h : Lv w e L w1) (b : Bd (w.heap.size + 1) (w.heap.size + 1) L' w2) (g : Wr (w.heap.size + 1) (w.heap.size + 1) w1 w2) : Lv w e L' w2 :=
  ⟨b, tt_wr h.tt g (by omega), g.keep _ _ h.bx (by omega) (fun c fz e => by simp at e)⟩
theorem Lv.ib {w : World} {e : Ez} {L : List UInt8} {w1 : World} (h : Lv w e L w1) : Ib w1 w.heap.size e := by
  have := h.bx
  exact ⟨cell_at this (j := 0) rfl, cell_at this (j := 1) rfl, cell_at this (j := 2) rfl, cell_at this (j := 3) rfl, cell_at this (j := 4) rfl, cell_at this (j := 5) rfl, cell_at this (j := 6) rfl, cell_at this (j := 7) rfl, cell_at this (j := 8) rfl, cell_at this (j := 9) rfl, cell_at this (j := 10) rfl, cell_at this (j := 11) rfl, cell_at this (j := 12) rfl⟩
theorem Lv.lt {w : World} {e : Ez} {L : List UInt8} {w1 : World} (h : Lv w e L w1) : w.heap.size + 1 < w1.heap.size := h.bd.2.2
theorem nef (w : World) (a b c : Int) : (binOp .neq 26 (.agg #[.int .i64 a, .int .i64 b, .int .i64 c]) (.agg #[.int .i64 0, .int .i64 0, .int .i64 0])).run Tryz.prog w = .ok (.bool (!nonF a b c)) w := by
  unfold nonF
  by_cases h1 : a = 0
  · by_cases h2 : b = 0
    · by_cases h3 : c = 0
      · go_simp
      · go_simp
    · go_simp
  · go_simp
theorem nek (w : World) (sp : Int) (nm : ByteArray) : (binOp .neq 24 (.agg #[.int .u16 sp, .string nm]) (.agg #[.int .u16 0, .string ⟨#[]⟩])).run Tryz.prog w = .ok (.bool (!zeroK sp nm)) w := by
  unfold zeroK
  by_cases h0 : sp = 0
  · by_cases h1 : nm.toList = []
    · go_simp
    · go_simp
  · go_simp
theorem ktext_ (sp : Nat) (nm : ByteArray) (hs : sp ≤ 65535) (hn : nm.size ≤ 64) (w : World) (ht : Tab w) : Calls Tryz.prog 80 #[.agg #[.int .u16 sp, .string nm]] w fun e w' => e = .returned (.tuple #[.string (textB sp nm), .int .i64 0]) ∧ Touch [] w w' :=
  (Kt.text10_of sp nm (itoaB sp) w hn (by omega) (by omega) (Kt.itoaB_len sp (by omega)) (fun w' hg => Calls.mono (Tryz.strconv_Itoa sp (by omega) (by omega) w' (ht.touch hg.touch)) fun e w'' ⟨he, k, os, hw⟩ => ⟨he, by rw [hw]; exact gr_grow w' k os⟩)).mono fun e w' ⟨he, hg⟩ => ⟨he, hg.touch⟩
end Go.Proofs.YtlffleigahfdlaaGreatDoor.Tr
/- Numbers told by the document, of either sign; the conditions are the form's. -/
namespace Go.Proofs.YtlffleigahfdlaaGreatDoor.Tr
open Go.RowKit Go.Sort Go.Shelf Go.Maps Go.ChangeMaps
open Go.Proofs.YtlffleigahfdlaaGreatDoor.Kt (Gr gr_grow textB itoaB byt conv1 dec_last dec_step)
set_option linter.unusedVariables false
set_option linter.unusedSimpArgs false
theorem dec_len (n : Nat) (h : n ≤ 9223372036854775808) : (Lib.decDigits n).length ≤ 20 := by
  rw [Lib.decDigits_length]
  exact Lib.nDigits_le20 n (by omega)
theorem qr (X : Int) : (X.tmod 10).natAbs = X.natAbs % 10 ∧ (X.tdiv 10).natAbs = X.natAbs / 10 ∧ (0 ≤ X → 0 ≤ X.tmod 10) ∧ (X ≤ 0 → X.tmod 10 ≤ 0) := by
  refine ⟨?_, ?_, ?_, ?_⟩
  · rw [Int.natAbs_tmod]; rfl
  · rw [Int.natAbs_tdiv]; rfl
  · exact fun h => Int.tmod_nonneg _ h
  · intro h
    rcases Int.eq_nat_or_neg X with ⟨k, rfl | rfl⟩
    · have : k = 0 := by omega
      subst this; decide
    · rw [Int.neg_tmod]
      have := Int.tmod_nonneg (a := (k : Int)) 10 (by omega)
      omega
theorem last_dig {m : Nat} {D Q C : Int} (h1 : D.natAbs = m % 10) (h2 : Q.natAbs = m / 10) (h0 : Q = 0) (hC : C = 48 + (D.natAbs : Int)) : Lib.decDigits m = [byt C] := by
  have : m < 10 := by omega
  rw [dec_last m this, hC, h1]
  congr 3
  omega
theorem more_dig {m : Nat} {D Q C : Int} (h1 : D.natAbs = m % 10) (h2 : Q.natAbs = m / 10) (h0 : ¬ Q = 0) (hC : C = 48 + (D.natAbs : Int)) : Lib.decDigits m = Lib.decDigits Q.natAbs ++ [byt C] := by
  have : ¬ m < 10 := by omega
  rw [dec_step m this, hC, h1, h2]
  rfl
theorem ret_s {a : ByteArray} {l : List UInt8} (h : l = a.data.toList) : Ending.returned (.string a) = .returned (.string ⟨l.toArray⟩) := by
  rw [h]
set_option maxHeartbeats 2000000 in
theorem rdigits_ (n : Int) (h : B64 n) (w : World) :
    Calls Tryz.prog 48 #[.int .i64 n] w fun e w' => e = .returned (.string ⟨(Lib.itoa n).toArray⟩) ∧ Gr w w' := by
  have HN := hid h
  have HZ : Hid ((Lib.decDigits n.natAbs).length ≤ 20) := dec_len n.natAbs (by unfold B64 at h; omega)
  have HI : Hid (Lib.itoa n = if n < 0 then 45 :: Lib.decDigits n.natAbs else Lib.decDigits n.natAbs) := hid (by
    unfold Lib.itoa
    by_cases h0 : n < 0
    · rw [if_pos h0, if_pos h0]
    · rw [if_neg h0, if_neg h0, show n.toNat = n.natAbs by omega])
  clear h
  go_enter Tryz.func48, Tryz.ntmps48
  go_wp2
  go_loopw [4, 3] (fun v t wr => ∃ (X : Int) (y : ByteArray), v = .int .i64 X ∧ t = .string y ∧ Hid (X.natAbs ≤ n.natAbs ∧ Lib.decDigits n.natAbs = Lib.decDigits X.natAbs ++ y.data.toList) ∧ Gr w wr) (fun v _ _ => (intOf v).natAbs)
  case atStart => exact ⟨n, ⟨#[]⟩, rfl, rfl, ⟨Nat.le_refl _, by simp⟩, Gr.refl _⟩
  case round =>
    obtain ⟨X, y, rfl, rfl, HD, G⟩ := hrel
    have hy : y.size ≤ 20 := by
      have h1 := congrArg List.length HD.out.2
      rw [List.length_append] at h1
      have h2 : y.size = y.data.toList.length := rfl
      have := HZ.out
      omega
    obtain ⟨q1, q2, q3, q4⟩ := qr X
    obtain ⟨D, hD⟩ : ∃ D, X.tmod 10 = D := ⟨_, rfl⟩
    obtain ⟨Q, hQ⟩ : ∃ Q, X.tdiv 10 = Q := ⟨_, rfl⟩
    rw [hD] at q1 q3 q4
    rw [hQ] at q2
    have HQ := hid (And.intro q1 (And.intro q2 (And.intro q3 q4)))
    have HY := hid hy
    clear q1 q2 q3 q4 hy
    have hd9 : D.natAbs ≤ 9 := by have := HQ.out.1; omega
    by_cases hneg : D < 0
    · obtain ⟨E, hE⟩ : ∃ E, -D = E := ⟨_, rfl⟩
      have hwE : IntKind.i64.wrap E = E := by rw [IntKind.wrap_i64]; omega
      obtain ⟨C, hC⟩ : ∃ C, 48 + E = C := ⟨_, rfl⟩
      have c0 : C = 48 + (D.natAbs : Int) := by omega
      have c1 : 0 ≤ C := by omega
      have c2 : C ≤ 255 := by omega
      have hw2 : IntKind.u8.wrap C = C := by rw [IntKind.wrap_u8]; omega
      have hcv := conv1 (wr.alloc (.cells #[.int .u8 C] 5)) wr.heap.size 1 C ⟨c1, c2⟩ (by simp)
      have had : ∀ w, (Op.stringOp .add ⟨#[byt C]⟩ y).run Tryz.prog w = .ok (.string (⟨#[byt C]⟩ ++ y)) w := fun w => run_string_add_sum w _ _ (by have : (ByteArray.mk #[byt C]).size = 1 := rfl; have := HY.out; omega)
      have HC := hid c0
      have hw1 : IntKind.i64.wrap C = C := by rw [IntKind.wrap_i64]; omega
      have hwq : IntKind.i64.wrap Q = Q := by rw [IntKind.wrap_i64]; have := HQ.out.2.1; have := HD.out.1; have := HN.out; unfold B64 at this; omega
      clear c0 c1 c2 hd9
      by_cases hq0 : Q = 0
      · have HE : Hid (Lib.decDigits n.natAbs = (⟨#[byt C]⟩ ++ y : ByteArray).data.toList) := hid (by rw [HD.out.2, last_dig HQ.out.1 HQ.out.2.1 hq0 HC.out]; simp [ByteArray.data_append])
        have hz : (Q == 0) = true := by simp [hq0]
        clear hq0
        go_upto_region 8 with fail
        have hzs : (⟨#[byt C]⟩ ++ y : ByteArray).size ≤ 30 := by rw [ByteArray.size_append]; have : (ByteArray.mk #[byt C]).size = 1 := rfl; have := HY.out; omega
        clear hz hwq hw1 hcv had hw2 hC hD hQ
        generalize (⟨#[byt C]⟩ ++ y : ByteArray) = Y at *
        by_cases hn : n < 0
        · have hadd : ∀ w, (Op.stringOp .add ⟨#[45]⟩ Y).run Tryz.prog w = .ok (.string (⟨#[45]⟩ ++ Y)) w := fun w => run_string_add_sum w _ _ (by have : (ByteArray.mk #[45]).size = 1 := rfl; omega)
          have HR : Hid (Lib.itoa n = 45 :: Y.data.toList) := hid (by rw [HI.out, if_pos hn, HE.out])
          clear hzs
          go_wp2
          go_ret
          exact ⟨ret_s (by rw [HR.out]; simp [ByteArray.data_append]), G.alloc _⟩
        · have HR : Hid (Lib.itoa n = Y.data.toList) := hid (by rw [HI.out, if_neg hn, HE.out])
          clear hzs
          go_wp2
          go_ret
          exact ⟨ret_s (by rw [HR.out]), G.alloc _⟩
      · have HE : Hid (Lib.decDigits n.natAbs = Lib.decDigits Q.natAbs ++ (⟨#[byt C]⟩ ++ y : ByteArray).data.toList) := hid (by rw [HD.out.2, more_dig HQ.out.1 HQ.out.2.1 hq0 HC.out]; simp [ByteArray.data_append])
        have hz : (Q == 0) = false := by simp [hq0]
        have HQ0 := hid hq0
        clear hq0
        go_wp2_with fail
        go_roundw
        case rel => exact ⟨Q, _, rfl, rfl, ⟨by have := HQ.out.2.1; have := HD.out.1; omega, HE.out⟩, G.alloc _⟩
        case measure => simp only [intOf, hwq]; have := HQ.out.2.1; have := HQ0.out; omega
    · obtain ⟨C, hC⟩ : ∃ C, 48 + D = C := ⟨_, rfl⟩
      have c0 : C = 48 + (D.natAbs : Int) := by omega
      have c1 : 0 ≤ C := by omega
      have c2 : C ≤ 255 := by omega
      have hw2 : IntKind.u8.wrap C = C := by rw [IntKind.wrap_u8]; omega
      have hcv := conv1 (wr.alloc (.cells #[.int .u8 C] 5)) wr.heap.size 1 C ⟨c1, c2⟩ (by simp)
      have had : ∀ w, (Op.stringOp .add ⟨#[byt C]⟩ y).run Tryz.prog w = .ok (.string (⟨#[byt C]⟩ ++ y)) w := fun w => run_string_add_sum w _ _ (by have : (ByteArray.mk #[byt C]).size = 1 := rfl; have := HY.out; omega)
      have HC := hid c0
      have hw1 : IntKind.i64.wrap C = C := by rw [IntKind.wrap_i64]; omega
      have hwq : IntKind.i64.wrap Q = Q := by rw [IntKind.wrap_i64]; have := HQ.out.2.1; have := HD.out.1; have := HN.out; unfold B64 at this; omega
      clear c0 c1 c2 hd9
      by_cases hq0 : Q = 0
      · have HE : Hid (Lib.decDigits n.natAbs = (⟨#[byt C]⟩ ++ y : ByteArray).data.toList) := hid (by rw [HD.out.2, last_dig HQ.out.1 HQ.out.2.1 hq0 HC.out]; simp [ByteArray.data_append])
        have hz : (Q == 0) = true := by simp [hq0]
        clear hq0
        go_upto_region 8 with fail
        have hzs : (⟨#[byt C]⟩ ++ y : ByteArray).size ≤ 30 := by rw [ByteArray.size_append]; have : (ByteArray.mk #[byt C]).size = 1 := rfl; have := HY.out; omega
        clear hz hwq hw1 hcv had hw2 hC hD hQ
        generalize (⟨#[byt C]⟩ ++ y : ByteArray) = Y at *
        by_cases hn : n < 0
        · have hadd : ∀ w, (Op.stringOp .add ⟨#[45]⟩ Y).run Tryz.prog w = .ok (.string (⟨#[45]⟩ ++ Y)) w := fun w => run_string_add_sum w _ _ (by have : (ByteArray.mk #[45]).size = 1 := rfl; omega)
          have HR : Hid (Lib.itoa n = 45 :: Y.data.toList) := hid (by rw [HI.out, if_pos hn, HE.out])
          clear hzs
          go_wp2
          go_ret
          exact ⟨ret_s (by rw [HR.out]; simp [ByteArray.data_append]), G.alloc _⟩
        · have HR : Hid (Lib.itoa n = Y.data.toList) := hid (by rw [HI.out, if_neg hn, HE.out])
          clear hzs
          go_wp2
          go_ret
          exact ⟨ret_s (by rw [HR.out]), G.alloc _⟩
      · have HE : Hid (Lib.decDigits n.natAbs = Lib.decDigits Q.natAbs ++ (⟨#[byt C]⟩ ++ y : ByteArray).data.toList) := hid (by rw [HD.out.2, more_dig HQ.out.1 HQ.out.2.1 hq0 HC.out]; simp [ByteArray.data_append])
        have hz : (Q == 0) = false := by simp [hq0]
        have HQ0 := hid hq0
        clear hq0
        go_wp2_with fail
        go_roundw
        case rel => exact ⟨Q, _, rfl, rfl, ⟨by have := HQ.out.2.1; have := HD.out.1; omega, HE.out⟩, G.alloc _⟩
        case measure => simp only [intOf, hwq]; have := HQ.out.2.1; have := HQ0.out; omega
end Go.Proofs.YtlffleigahfdlaaGreatDoor.Tr
