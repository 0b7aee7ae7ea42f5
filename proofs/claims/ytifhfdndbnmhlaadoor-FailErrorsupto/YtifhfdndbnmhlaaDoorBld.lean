/- The contract of writing a string to the library's builder, laid at this program: one application of a theorem of the library; and what the program says of an error; the conditions are those that each states. -/
import Derived.Test.YtifhfdndbnmhlaaDoorIsd
import Derived.Shelf.Strings.BuilderK
import Derived.Deep.RegionWith
namespace Go.Proofs.YtifhfdndbnmhlaaDoor
open Go.RowKit Go.Sort Go.Shelf
set_option linter.unusedVariables false

def bren : Go.Shelf.Ren := ⟨fun | 166 => 38 | 240 => 46 | 276 => 53 | n => n, fun | 37 => 75 | 70 => 74 | 72 => 77 | 75 => 47 | 164 => 92 | n => n, fun | n => n⟩
theorem blays : Go.Proofs.Lays.n166 Tryd.prog bren := {
  mixed := by kernel_rfl
  f166 := Tryd.func38.trans (congrArg some (by kernel_rfl))
  f240 := Tryd.func46.trans (congrArg some (by kernel_rfl))
  f276 := Tryd.func53.trans (congrArg some (by kernel_rfl))
  t0 := Tryd.underlying0
  a0 := Tryd.isAgg0
  z0 := Tryd.sizeOf0
  v0 := Tryd.zeroValue0
  t3 := Tryd.underlying3
  a3 := Tryd.isAgg3
  z3 := Tryd.sizeOf3
  v3 := Tryd.zeroValue3
  t4 := Tryd.underlying4
  a4 := Tryd.isAgg4
  z4 := Tryd.sizeOf4
  v4 := Tryd.zeroValue4
  t9 := Tryd.underlying9
  a9 := Tryd.isAgg9
  z9 := Tryd.sizeOf9
  v9 := Tryd.zeroValue9
  t20 := Tryd.underlying20
  a20 := Tryd.isAgg20
  z20 := Tryd.sizeOf20
  v20 := Tryd.zeroValue20
  t37 := Tryd.underlying75
  a37 := Tryd.isAgg75
  z37 := Tryd.sizeOf75
  v37 := Tryd.zeroValue75
  t70 := Tryd.underlying74
  a70 := Tryd.isAgg74
  z70 := Tryd.sizeOf74
  v70 := Tryd.zeroValue74
  t72 := Tryd.underlying77
  a72 := Tryd.isAgg77
  z72 := Tryd.sizeOf77
  v72 := Tryd.zeroValue77
  t75 := Tryd.underlying47
  a75 := Tryd.isAgg47
  z75 := Tryd.sizeOf47
  v75 := Tryd.zeroValue47
  t164 := Tryd.underlying92
  a164 := Tryd.isAgg92
  z164 := Tryd.sizeOf92
  v164 := Tryd.zeroValue92 }
theorem bextra : Go.Proofs.Builder.Extra Tryd.prog bren where
  sizeBuilder := by kernel_rfl
  liesBuilder := by kernel_rfl
  t5 := Tryd.underlying5
  a5 := Tryd.isAgg5
  z5 := Tryd.sizeOf5
  v5 := Tryd.zeroValue5
  infoByte := by kernel_rfl
  cellsByte := by kernel_rfl
  sizeByte := by kernel_rfl
  neB5 := by decide
theorem write38 (B b : Nat) (l : List UInt8) (s : ByteArray) (w : World) (h : Lib.IsBuilderF 77 5 B b (Lib.byteCells l) w) (hl : l.length + s.size ≤ 140737488355328) (hB : B ≤ w.heap.size) :
    Calls Tryd.prog 38 #[.pointer (some ⟨b, 0, none⟩), .string s] w fun e w' => e = .returned (.tuple #[.int .i64 s.size, .nilIface]) ∧ Lib.IsBuilderF 77 5 B b (Lib.byteCells (l ++ s.data.toList)) w' ∧ Below B w w' :=
  (Any.Builder_WriteString_k blays bextra B b (Lib.byteCells l) s w h (by rw [Lib.byteCells_length]; exact hl) hB).mono fun e w' ⟨he, h1, h2, _⟩ => ⟨he, Or.inr (by rw [Lib.byteCells_append]; exact h1), h2⟩

abbrev col : ByteArray := ⟨#[58, 32]⟩
def saidB : List ByteArray → ByteArray
  | [] => ⟨#[]⟩
  | n :: ns => n ++ col ++ saidB ns
theorem said_snoc (ns : List ByteArray) (n : ByteArray) : (saidB (ns ++ [n])).data.toList = (saidB ns).data.toList ++ n.data.toList ++ col.data.toList := by
  induction ns with
  | nil => simp [saidB, ByteArray.data_append]
  | cons m ns ih => simp [saidB, ByteArray.data_append, ih, List.append_assoc]
theorem said_le (ns : List ByteArray) (p : Nat) : (saidB (ns.take p)).size ≤ (saidB ns).size := by
  induction ns generalizing p with
  | nil => simp
  | cons n ns ih =>
    cases p with
    | zero => exact Nat.zero_le _
    | succ p =>
      have := ih p
      simp only [List.take_succ_cons, saidB, ByteArray.size_append]
      omega
theorem textB_size (k c r : Int) (hk : I64 k) (hc : I64 c) (hr : I64 r) : (textB k c r).size ≤ 80 := by
  unfold textB
  have h1 := wordB_size k hk
  have h2 := itoaB_size c hc
  have h3 := itoaB_size r hr
  split
  · have : wNone.size = 4 := rfl
    omega
  · have : sp.size = 1 := rfl
    simp only [ByteArray.size_append]
    omega
theorem builder_gr {B b : Nat} {bs : List Value} {w w' : World} (h : Lib.IsBuilderF 77 5 B b bs w) (hg : Gr w w') : Lib.IsBuilderF 77 5 B b bs w' := by
  have key : ∀ p, Lib.BuilderAtF 77 5 B b p bs w → Lib.BuilderAtF 77 5 B b p bs w' := fun p h => by
    have hlt := h.lt
    obtain ⟨hB, v, hb, hown, hne⟩ := h
    exact ⟨hB, v, (hg.below.block b hlt).trans hb, hown.kept (row := none) ⟨hg.os, hg.tape, hg.output, hg.size, fun k hk _ => hg.below.block k hk⟩ (by cases hv : v.ownBlock <;> simp), hne⟩
  exact h.imp (key _) (key _)
theorem sayE_nil (w : World) : Calls Tryd.prog 24 #[.nilIface] w fun e w' => e = .returned (.string ⟨#[]⟩) ∧ Gr w w' := by
  go_enter Tryd.func24, Tryd.ntmps24
  go_wp2
  go_ret
  exact ⟨rfl, by repeat (first | exact Gr.refl _ | apply Gr.alloc | apply Gr.drew)⟩
set_option maxRecDepth 20000 in
set_option maxHeartbeats 2000000 in
theorem say24 (k c r : Int) (b : Nat) (ns : List ByteArray) (w : World) (hS : St w) (hk : I64 k) (hc : I64 c) (hr : I64 r) (hC : Chain w k c r b ns) (hl : ns.length ≤ 1048576) (hz : (saidB ns).size ≤ 4194304) :
    Calls Tryd.prog 24 #[er b] w fun e w' => e = .returned (.string (saidB ns ++ textB k c r)) ∧ Gr w w' := by
  have HS : Hid (St w) := hS
  have HC : Hid (Chain w k c r b ns) := hC
  have HK : Hid (I64 k ∧ I64 c ∧ I64 r) := ⟨hk, hc, hr⟩
  clear hS hC hk hc hr
  go_enter Tryd.func24, Tryd.ntmps24
  go_wp2_with (go_at_call 37; refine (unwrap37 k c r b ns _ (HS.out.gr (by repeat (first | exact Gr.refl _ | apply Gr.alloc))).et (HC.out.gr (by repeat (first | exact Gr.refl _ | apply Gr.alloc))) hl).mono ?_; rintro e w1 ⟨A, cp, rfl, ho, hg⟩)
  obtain ⟨W0, hW0⟩ : ∃ W0, W0 = w1.alloc (.cells #[.int .i64 k, .int .i64 c, .int .i64 r] 23) := ⟨_, rfl⟩
  obtain ⟨B, hBe⟩ : ∃ B, B = w1.heap.size + 1 := ⟨_, rfl⟩
  have HBw : Hid (W0.heap.size = B) := by show _ = _; rw [hW0, hBe]; simp
  have HG0 : Hid (Gr w W0) := by show Gr _ _; rw [hW0]; exact hg.alloc _
  have HX0 : Hid (Box W0 w1.heap.size k c r) := by show Box _ _ _ _ _; rw [hW0]; exact box_new w1 k c r 23
  have HO : Hid (W0.ownsRow (w.heap.size + 1) 9 1 (.slice A ns.length cp) ns.length (strs ns)) := by show World.ownsRow _ _ _ _ _ _ _; rw [hW0]; exact ho.alloc _
  have HF0 : Hid (Lib.IsBuilderF 77 5 B B (Lib.byteCells (saidB (ns.take 0)).data.toList) (W0.alloc (.cells #[.pointer none, .slice none 0 0] 77))) := by
    have h := Lib.IsBuilderF.of (Lib.fresh_isBuilder 77 5 W0)
    rw [HBw.out] at h
    exact h
  rw [← hW0, ← hBe]
  generalize w1.heap.size = b1 at *
  clear hg ho hW0 hBe
  go_loopw [17] (fun i wr => ∃ p : Nat, i = .int .i64 p ∧ p ≤ ns.length ∧ Hid (Lib.IsBuilderF 77 5 B B (Lib.byteCells (saidB (ns.take p)).data.toList) wr) ∧ Hid (Below B W0 wr)) (fun i _ => ns.length - (intOf i).toNat)
  case atStart => exact ⟨0, rfl, Nat.zero_le _, HF0, by show Below _ _ _; rw [← HBw.out]; exact (Below.refl _ W0).alloc (Nat.le_refl _) _⟩
  case round =>
    obtain ⟨p, rfl, hp, HI, HL⟩ := hrel
    have hsz : B ≤ wr.heap.size := by rw [← HBw.out]; exact HL.out.size
    by_cases hlt : p < ns.length
    · have hz1 : (p : Int) < (ns.length : Int) := by omega
      have hz0 : (0 : Int) ≤ (p : Int) := by omega
      obtain ⟨g, rfl⟩ : ∃ g, A = some ⟨g, 0, none⟩ := by
        rcases HO.out.2 with ⟨hv, hn⟩ | ⟨g, cap, cur, hv, _⟩
        · omega
        · cases hv
          exact ⟨g, rfl⟩
      have hgl : g < B := by rw [← HBw.out]; exact (HO.out.lt g rfl).2
      have fc : wr.cell? ⟨g, p, none⟩ = some (.string ns[p]) := by
        rw [HL.out.cell (p := ⟨g, p, none⟩) hgl]
        have h1 := HO.out.cellAt p (by omega)
        rw [h1]
        simp [strs, List.getElem?_eq_getElem hlt]
      have HE : Hid (saidB (ns.take (p + 1)) = saidB (ns.take p ++ [ns[p]])) := by show _ = _; rw [List.take_succ_eq_append_getElem hlt]
      have HZ : Hid ((saidB (ns.take p)).data.toList.length + ns[p].size + 2 ≤ 4194304) := by
        show _ ≤ _
        have h1 := said_le ns (p + 1)
        rw [HE.out] at h1
        have h2 := congrArg List.length (said_snoc (ns.take p) ns[p])
        have h3 : (saidB (ns.take p ++ [ns[p]])).size = (saidB (ns.take p ++ [ns[p]])).data.toList.length := rfl
        have h4 : ns[p].size = ns[p].data.toList.length := rfl
        have h5 : col.data.toList.length = 2 := rfl
        simp only [List.length_append] at h2
        rw [h5] at h2
        omega
      have HF : Hid ((saidB (ns.take (p + 1))).data.toList = (saidB (ns.take p)).data.toList ++ ns[p].data.toList ++ col.data.toList) := by show _ = _; rw [HE.out, said_snoc]
      generalize ns[p] = y at *
      generalize (saidB (ns.take p)).data.toList = acc at *
      go_wp2_with (first
        | (go_at_call_of 38 (Value.string y); refine (write38 B B acc y _ HI.out (by have := HZ.out; omega) hsz).mono ?_; rintro e w2 ⟨rfl, i2, b2⟩; have I2 : Hid _ := i2; have B2 : Hid (Below B W0 w2) := HL.out.trans b2; clear i2 b2)
        | (go_at_call 38; refine (write38 B B (acc ++ y.data.toList) col _ I2.out (by have h1 := HZ.out; have h2 : y.size = y.data.toList.length := rfl; have h3 : col.size = 2 := rfl; simp only [List.length_append]; omega) (by rw [← HBw.out]; exact B2.out.size)).mono ?_; rintro e w3 ⟨rfl, i3, b3⟩; have I3 : Hid _ := i3; have B3 : Hid (Below B W0 w3) := B2.out.trans b3; clear i3 b3))
      go_roundw
      case rel => exact ⟨p + 1, by go_num, by omega, by rw [HF.out]; exact I3.out, B3.out⟩
      case measure => simp [intOf]; omega
    · have hz1 : ¬ (p : Int) < (ns.length : Int) := by omega
      obtain rfl : p = ns.length := by omega
      rw [List.take_length] at HI
      have HL0 : Hid (Gr W0 wr) := by show Below _ _ _; rw [HBw.out]; exact HL.out
      have HGr : Hid (Gr w wr) := HG0.out.trans HL0.out
      obtain ⟨x0, x1, x2, y0, y1, y2⟩ := HX0.out.gr HL0.out
      have HT := textB_size k c r HK.out.1 HK.out.2.1 HK.out.2.2
      go_wp2_with (first
        | (go_at_call 18; refine (text18 k c r HK.out.1 HK.out.2.1 HK.out.2.2 _ (HS.out.gr HGr.out).tab (HS.out.gr HGr.out).wo).mono ?_; rintro e w2 ⟨rfl, hg2⟩; have I2 : Hid (Lib.IsBuilderF 77 5 B B (Lib.byteCells (saidB ns).data.toList) w2) := builder_gr HI.out hg2; have B2 : Hid (Below B W0 w2) := HL.out.trans (hg2.below.mono hsz); clear hg2)
        | (go_at_call 38; refine (write38 B B (saidB ns).data.toList (textB k c r) _ I2.out (by have h3 : (saidB ns).size = (saidB ns).data.toList.length := rfl; omega) (by rw [← HBw.out]; exact B2.out.size)).mono ?_; rintro e w3 ⟨rfl, i3, b3⟩; have I3 : Hid _ := i3; have B3 : Hid (Below B W0 w3) := B2.out.trans b3; clear i3 b3)
        | (go_at_call 39; refine (Tryd.Builder_String_any_k B B ((saidB ns).data.toList ++ (textB k c r).data.toList) _ I3.out (by rw [← HBw.out]; exact B3.out.size)).mono ?_; rintro e w4 ⟨rfl, _, b4, _⟩; have B4 : Hid (Below B W0 w4) := B3.out.trans b4; clear b4))
      go_ret
      refine ⟨?_, HG0.out.trans (by show Below _ _ _; rw [HBw.out]; exact B4.out)⟩
      congr 2
def sayB (k c r : Int) (ns : List ByteArray) : ByteArray := if none3 k c r then ⟨#[]⟩ else saidB ns ++ textB k c r
theorem sayE (v : Value) (k c r : Int) (ns : List ByteArray) (w : World) (hS : St w) (hk : I64 k) (hc : I64 c) (hr : I64 r) (h : Ev w v k c r ns) (hl : ns.length ≤ 1048576) (hz : (saidB ns).size ≤ 4194304) :
    Calls Tryd.prog 24 #[v] w fun e w' => e = .returned (.string (sayB k c r ns)) ∧ Gr w w' := by
  rcases h with ⟨hn, rfl⟩ | ⟨hn, b, rfl, hC⟩
  · have hv : sayB k c r ns = ⟨#[]⟩ := by simp [sayB, hn]
    rw [hv]
    exact sayE_nil w
  · have hv : sayB k c r ns = saidB ns ++ textB k c r := by simp [sayB, hn]
    rw [hv]
    exact say24 k c r b ns w hS hk hc hr hC hl hz
end Go.Proofs.YtifhfdndbnmhlaaDoor
