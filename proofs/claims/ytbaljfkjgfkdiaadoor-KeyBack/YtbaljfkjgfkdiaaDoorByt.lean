/- The contracts of the program's and the document's bytes of keys; a key's space is a number of 16 bits, a name's length fits. -/
import Derived.Test.YtbaljfkjgfkdiaaDoorText
import Derived.Laws.IdiomStrings
namespace Go.Proofs.YtbaljfkjgfkdiaaDoor
open Go.RowKit Go.Sort
set_option linter.unusedVariables false

def byt (x : Int) : UInt8 := UInt8.ofNat x.toNat
theorem byt_toNat (x : Int) (h0 : 0 ≤ x) (h1 : x ≤ 255) : ((byt x).toNat : Int) = x := by
  unfold byt
  rw [UInt8.toNat_ofNat']
  omega
def hd3 (a : Int) (s : ByteArray) : ByteArray := ⟨#[byt (a % 256), byt (a / 256), byt ((s.size : Int) % 256)]⟩
theorem hd3_size (a : Int) (s : ByteArray) : (hd3 a s).size = 3 := rfl

theorem head37 (a : Int) (s : ByteArray) (w : World) (h0 : 0 ≤ a) (h1 : a ≤ 65535) (hs : s.size ≤ maxLen) :
    Calls Tryd.prog 37 #[.agg #[.int .u16 a, .string s]] w fun e w' => e = .returned (.agg #[.int .u8 (a % 256), .int .u8 (a / 256), .int .u8 ((s.size : Int) % 256)]) ∧ Gr w w' := by
  unfold maxLen at hs
  go_enter Tryd.func37, Tryd.ntmps37
  go_wp2
  exact bodyPost_ret (v := .agg #[.int .u8 (a % 256), .int .u8 (a / 256), .int .u8 ((s.size : Int) % 256)]) (by simp [results, Tryd.results37, go_sem]) rfl ⟨rfl, ((Gr.refl _).alloc _).alloc _⟩

theorem conv3 (W : World) (b cap : Nat) (x y z : Int) (hx : 0 ≤ x ∧ x ≤ 255) (hy : 0 ≤ y ∧ y ≤ 255) (hz : 0 ≤ z ∧ z ≤ 255)
    (c0 : W.cell? ⟨b, 0, none⟩ = some (.int .u8 x)) (c1 : W.cell? ⟨b, 1, none⟩ = some (.int .u8 y)) (c2 : W.cell? ⟨b, 2, none⟩ = some (.int .u8 z)) :
    (convert 71 9 (.slice (some ⟨b, 0, none⟩) 3 cap)).run Tryd.prog W = .ok (.string ⟨#[byt x, byt y, byt z]⟩) W := by
  refine run_convert_bytes_back W 71 9 5 ⟨b, 0, none⟩ cap [byt x, byt y, byt z] Tryd.underlying71 Tryd.underlying5 Tryd.underlying9 fun j hj => ?_
  match j, hj with
  | 0, _ => simp only [List.getElem_cons_zero]; rw [byt_toNat x hx.1 hx.2]; exact c0
  | 1, _ => simp only [List.getElem_cons_zero, List.getElem_cons_succ]; rw [byt_toNat y hy.1 hy.2]; exact c1
  | 2, _ => simp only [List.getElem_cons_zero, List.getElem_cons_succ]; rw [byt_toNat z hz.1 hz.2]; exact c2
theorem add_hd (a : Int) (s : ByteArray) (hs : s.size ≤ 9223372036854775800) (w : World) : (Op.stringOp .add (hd3 a s) s).run Tryd.prog w = .ok (.string (hd3 a s ++ s)) w := run_string_add_sum w _ _ (by rw [hd3_size]; omega)

theorem ref17 (a : Int) (s : ByteArray) (w : World) (h0 : 0 ≤ a) (h1 : a ≤ 65535) (hs : s.size ≤ 9223372036854775800) :
    Calls Tryd.prog 17 #[.agg #[.int .u16 a, .string s]] w fun e w' => e = .returned (.string (hd3 a s ++ s)) ∧ Gr w w' := by
  have hcv := conv3 ((w.alloc (.cells #[.int .u16 a, .string s] 31)).alloc (.cells #[.int .u8 (a % 256), .int .u8 (a / 256), .int .u8 ((s.size : Int) % 256)] 5)) (w.heap.size + 1) 3 (a % 256) (a / 256) ((s.size : Int) % 256) (by omega) (by omega) (by omega)
    (by go_simp) (by go_simp) (by go_simp)
  rw [show (⟨#[byt (a % 256), byt (a / 256), byt ((s.size : Int) % 256)]⟩ : ByteArray) = hd3 a s from rfl] at hcv
  have had := add_hd a s hs
  have hdv : IntKind.u16.wrap (a.tdiv 256) = a / 256 := by rw [IntKind.wrap_u16, Int.tdiv_eq_ediv_of_nonneg h0]; omega
  have hmd : a / 256 % 256 = a / 256 := by omega
  clear hs
  go_enter Tryd.func17, Tryd.ntmps17
  go_wp2
  go_ret
  exact ⟨rfl, ((Gr.refl _).alloc _).alloc _⟩

theorem bytes16_no (a : Int) (s : ByteArray) (w : World) (h : 64 < s.size) :
    Calls Tryd.prog 16 #[.agg #[.int .u16 a, .string s]] w fun e w' => e = .returned (.tuple #[.string ⟨#[]⟩, .int .i64 20]) ∧ Gr w w' := by
  go_enter Tryd.func16, Tryd.ntmps16
  go_wp2_with (go_at_call 13; refine (check13_no _ _ _ h).mono ?_; rintro e w1 ⟨rfl, hg⟩)
  go_ret2
  exact ⟨rfl, ((Gr.refl _).alloc _).trans hg⟩

set_option maxHeartbeats 1000000 in
theorem bytes16_ok (a : Int) (s : ByteArray) (w : World) (h0 : 0 ≤ a) (h1 : a ≤ 65535) (h : s.size ≤ 64) :
    Calls Tryd.prog 16 #[.agg #[.int .u16 a, .string s]] w fun e w' => e = .returned (.tuple #[.string (hd3 a s ++ s), .int .i64 0]) ∧ Gr w w' := by
  have mixed : Tryd.prog.follows .mixedOrders = true := by kernel_rfl
  have had := add_hd a s (by omega)
  go_enter Tryd.func16, Tryd.ntmps16
  go_wp2_with fail
  refine (check13_ok _ _ _ h).mono ?_
  rintro e w1 ⟨rfl, hg⟩
  have c0 : w1.cell? ⟨w.heap.size, 0, none⟩ = some (.int .u16 a) := hg.cell (by simp) (by simp)
  have c1 : w1.cell? ⟨w.heap.size, 1, none⟩ = some (.string s) := hg.cell (by simp) (by simp)
  go_wp2_with fail
  refine (head37 a s _ h0 h1 (by unfold maxLen; omega)).mono ?_
  rintro e w2 ⟨rfl, hg2⟩
  have hz : w.heap.size < w1.heap.size := by have := hg.size; simp at this; omega
  have hz2 := hg2.size
  have d1 : w2.cell? ⟨w.heap.size, 1, none⟩ = some (.string s) := hg2.cell c1 (by exact hz)
  have G : Hid (Gr w w2) := (((Gr.refl _).alloc _).trans hg).trans hg2
  clear hg hg2 c0 c1
  go_wp2_with fail
  obtain ⟨V, hV⟩ : ∃ V, V = w2.alloc (.cells #[.int .u8 (a % 256), .int .u8 (a / 256), .int .u8 ((s.size : Int) % 256)] 69) := ⟨_, rfl⟩
  have GV : Hid (Gr w V) := by rw [hV]; exact G.out.alloc _
  have v0 : ∀ n os, (grow (V.drewN n) os).cell? ⟨w2.heap.size, 0, none⟩ = some (.int .u8 (a % 256)) := fun n os => (gr_grow V n os).cell (by rw [hV]; simp) (by rw [hV]; simp)
  have v1 : ∀ n os, (grow (V.drewN n) os).cell? ⟨w2.heap.size, 1, none⟩ = some (.int .u8 (a / 256)) := fun n os => (gr_grow V n os).cell (by rw [hV]; simp) (by rw [hV]; simp)
  have v2 : ∀ n os, (grow (V.drewN n) os).cell? ⟨w2.heap.size, 2, none⟩ = some (.int .u8 ((s.size : Int) % 256)) := fun n os => (gr_grow V n os).cell (by rw [hV]; simp) (by rw [hV]; simp)
  have v3 : ∀ n os, (grow (V.drewN n) os).cell? ⟨w.heap.size, 1, none⟩ = some (.string s) := fun n os => by
    have : Gr w2 V := by rw [hV]; exact (Gr.refl _).alloc _
    exact (this.grow n os).cell d1 (by show w.heap.size < _; omega)
  have hcv : ∀ n os, (convert 71 9 (.slice (some ⟨w2.heap.size, 0, none⟩) 3 3)).run Tryd.prog (grow (V.drewN n) os) = .ok (.string (hd3 a s)) (grow (V.drewN n) os) := fun n os => conv3 _ _ 3 _ _ _ (by omega) (by omega) (by omega) (v0 n os) (v1 n os) (v2 n os)
  rw [← hV]
  clear hV v0 v1 v2 d1
  go_quiet_grown (fail)
  go_wp2
  go_ret2
  exact ⟨rfl, GV.out.grow _ _⟩
end Go.Proofs.YtbaljfkjgfkdiaaDoor
