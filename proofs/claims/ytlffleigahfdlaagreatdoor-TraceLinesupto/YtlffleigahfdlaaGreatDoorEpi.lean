/- Whether a text holds one of the three bytes that end lines, as ContainsAny tells it; no conditions but those that each states. -/
import Derived.Test.YtlffleigahfdlaaGreatDoorEph
import Derived.Lib.OthersKept
namespace Go.Proofs.YtlffleigahfdlaaGreatDoor.Tr
open Go.RowKit Go.Shelf Go.Maps Go.ChangeMaps
open Go.Lib (iterAt_heap run_next_ascii_at run_next_any_at run_next_end_at)
set_option linter.unusedVariables false
set_option linter.unusedSimpArgs false
theorem decode_skip (s : ByteArray) (i k : Nat) (h1 : 1 ≤ k) (h2 : k < (Utf8.decode s i).2) : i + k < s.size ∧ 128 ≤ (s.get! (i + k)).toNat := by
  revert h2
  simp only [Utf8.decode]
  repeat' split
  all_goals intro h2
  all_goals simp only [Bool.and_eq_true, decide_eq_true_eq, beq_iff_eq] at *
  all_goals first
    | omega
    | (have hk : k = 1 ∨ k = 2 ∨ k = 3 := by omega
       rcases hk with rfl | rfl | rfl <;> first | omega | (constructor <;> omega))
/-- None of the bytes ahead of i is one of the three. -/
def NoB (s : ByteArray) (i : Nat) : Prop := ∀ (j : Nat) (b : UInt8), j < i → s.data.toList[j]? = some b → spec b = false
theorem NoB.end_ {s : ByteArray} {i : Nat} (h : NoB s i) (hi : s.size ≤ i) : endsB s.data.toList = false := by
  unfold endsB
  rw [List.any_eq_false]
  intro b hb
  obtain ⟨j, hj, e⟩ := List.getElem_of_mem hb
  have h1 : j < s.size := by simpa using hj
  have := h j b (by omega) (by rw [List.getElem?_eq_getElem hj, e])
  simp [this]
theorem NoB.succ {s : ByteArray} {i : Nat} {b : UInt8} (h : NoB s i) (hb : s.data.toList[i]? = some b) (hs : spec b = false) : NoB s (i + 1) := by
  intro j c hj hc
  rcases Nat.lt_or_ge j i with q | q
  · exact h j c q hc
  · have : j = i := by omega
    subst this
    rw [hb] at hc
    cases hc
    exact hs
theorem spec_hi {b : UInt8} (h : 128 ≤ b.toNat) : spec b = false := by
  cases e : spec b
  · rfl
  · have := (spec_iff b).1 e
    omega
theorem NoB.skip {s : ByteArray} {i : Nat} (h : NoB s i) (hi : i < s.size) (hb : 128 ≤ (s[i]'hi).toNat) : NoB s (i + (Utf8.decode s i).2) := by
  intro j c hj hc
  rcases Nat.lt_or_ge j i with q | q
  · exact h j c q hc
  · have hjs : j < s.size := by
      have := (List.getElem?_eq_some_iff.1 hc).1
      simpa using this
    have hjc : s[j]'hjs = c := by
      rw [List.getElem?_eq_getElem (by simpa using hjs)] at hc
      simp at hc
      exact hc
    apply spec_hi
    by_cases e : j = i
    · subst e
      rw [← hjc]
      exact hb
    · obtain ⟨_, h2⟩ := decode_skip s i (j - i) (by omega) (by omega)
      rw [show i + (j - i) = j by omega] at h2
      have : s.get! j = s[j]'hjs := by
        rw [show s.get! j = s.get! (j + 0) by rfl, get_at s j hjs]
      rw [this, hjc] at h2
      exact h2
theorem byte_at (s : ByteArray) {i : Nat} (h : i < s.size) : s.data.toList[i]? = some (s[i]'h) := by
  rw [List.getElem?_eq_getElem (by simpa using h)]
  simp
  rfl
theorem ib3_no {b : UInt8} (h : spec b = false) : Lib.indexByte [10, 13, 37] b = -1 := by
  unfold spec at h
  simp at h
  obtain ⟨⟨h1, h2⟩, h3⟩ := h
  have e1 : ((10 : UInt8) == b) = false := by simpa using fun e => h1 e.symm
  have e2 : ((13 : UInt8) == b) = false := by simpa using fun e => h2 e.symm
  have e3 : ((37 : UInt8) == b) = false := by simpa using fun e => h3 e.symm
  simp only [Lib.indexByte, e1, e2, e3]
  rfl
theorem ib3_yes {b : UInt8} (h : spec b = true) : 0 ≤ Lib.indexByte [10, 13, 37] b := by
  unfold spec at h
  simp at h
  rcases h with (rfl | rfl) | rfl <;> decide
theorem endsB_yes {s : ByteArray} {i : Nat} {b : UInt8} (h : s.data.toList[i]? = some b) (hs : spec b = true) : endsB s.data.toList = true := by
  unfold endsB
  rw [List.any_eq_true]
  exact ⟨b, List.mem_of_getElem? h, hs⟩
/-- The text's iterator stands at i. -/
def It (w : World) (K : Nat) (s : ByteArray) (w2 : World) (i : Nat) : Prop := w2.heap[K]? = some (.stringIter s i) ∧ Touch [] w w2 ∧ w.heap.size ≤ K ∧ NoB s i
theorem It.pos {w w2 : World} {K i : Nat} {s : ByteArray} (h : It w K s w2 i) : w2.iterPos K = i := by
  unfold World.iterPos
  rw [h.1]
theorem It.at_ {w w2 : World} {K i : Nat} {s : ByteArray} (h : It w K s w2 i) (j : Nat) : (w2.iterAt K s j).heap[K]? = some (.stringIter s j) ∧ Touch [] w (w2.iterAt K s j) := by
  refine ⟨iterAt_heap w2 K s i j h.1, h.2.1.trans (G := [K]) ⟨rfl, rfl, rfl, by simp [World.iterAt], fun k hk hn => ?_⟩ (fun q hq => Or.inr (by simp at hq; have := h.2.2.1; omega))⟩
  simp at hn
  simp only [World.iterAt]
  rw [Array.getElem?_setIfInBounds, if_neg (fun e => hn e.symm)]
set_option maxHeartbeats 4000000 in
set_option maxRecDepth 100000 in
/-- A text of at most 8 bytes, whatever they are. -/
theorem indexAny_short (s : ByteArray) (h8 : s.size ≤ 8) (w : World) :
    Calls Tryz.prog 134 #[.string s, .string three] w fun e w' => ∃ n : Int, e = .returned (.int .i64 n) ∧ (decide (0 ≤ n) = endsB s.data.toList) ∧ Touch [] w w' := by
  have hemp : three.toList.isEmpty = false := by rw [Lib.toList_data]; rfl
  have hsz : (three.size : Int) = 3 := rfl
  have h8z : decide ((8 : Int) < (s.size : Int)) = false := decide_eq_false (by omega)
  have HN : Hid (NoB s 0) := hid (fun j b hj => absurd hj (Nat.not_lt_zero _))
  go_enter Tryz.func134, Tryz.ntmps134
  go_wp2_with fail
  refine (Any.strings_shouldUseASCIISet { Tryz.strings_IndexAny with } _ _).mono ?_
  rintro e w1 ⟨rfl, rfl⟩
  rw [h8z]
  go_wp2_with fail
  obtain ⟨K, hK⟩ : ∃ K : Nat, w1.heap.size = K := ⟨_, rfl⟩
  have H0 : Hid (It w1 K s (w1.iter s 0) 0) := hid ⟨by rw [← hK]; exact World.iter_heap w1 s 0, titer w1 s 0, by omega, HN.out⟩
  rw [hK]
  go_loopw [9, 10] (fun _ _ w2 => ∃ i : Nat, Hid (It w1 K s w2 i)) (fun _ _ w2 => s.size - w2.iterPos K)
  case atStart => exact ⟨0, H0⟩
  case round =>
    rename World => w2
    obtain ⟨i, HB⟩ := hrel
    clear HN H0 hK
    have hp := HB.out.pos
    by_cases hi : i < s.size
    · have Hb := hid (byte_at s hi)
      by_cases ha : (s[i]'hi).toNat < 128
      · have hnx := fun ty => run_next_ascii_at (P := Tryz.prog) w2 K s i ty HB.out.1 hi ha
        obtain ⟨x, hx⟩ : ∃ x : UInt8, s[i]'hi = x := ⟨_, rfl⟩
        rw [hx] at hnx Hb ha
        obtain ⟨w3, hw3⟩ : ∃ w3, w2.iterAt K s (i + 1) = w3 := ⟨_, rfl⟩
        have HW : Hid (w3.heap[K]? = some (.stringIter s (i + 1)) ∧ Touch [] w1 w3) := hid (hw3 ▸ HB.out.at_ (i + 1))
        rw [hw3] at hnx
        have HI : Hid _ := Any.strings_IndexRune_ascii (P := Tryz.prog) (ρ := Tryz.strings_IndexRune_ren) { Tryz.strings_IndexRune with } three (x.toNat : Int) w3 (by omega) (by omega)
        rw [show ((x.toNat : Int)).toNat.toUInt8 = x by simp] at HI
        have HK := hid hi
        clear ha hw3
        cases hs : spec x with
        | false =>
          rw [show Lib.indexByte three.data.toList x = -1 from ib3_no hs] at HI
          go_wp2_with fail
          refine Calls.mono HI.out ?_
          rintro e w4 ⟨rfl, rfl⟩
          go_wp2_with fail
          have HN2 : It w1 K s w4 (i + 1) := ⟨HW.out.1, HW.out.2, HB.out.2.2.1, HB.out.2.2.2.succ Hb.out hs⟩
          go_roundw
          case rel => exact ⟨i + 1, HN2⟩
          case measure => rw [hp, HN2.pos]; have := HK.out; omega
        | true =>
          have h3 := ib3_yes hs
          have HE := hid (endsB_yes Hb.out hs)
          obtain ⟨z, hz⟩ : ∃ z : Int, Lib.indexByte three.data.toList x = z := ⟨_, rfl⟩
          rw [hz] at HI
          have hz0 : 0 ≤ z := by rw [← hz]; exact h3
          clear hz h3
          go_wp2_with fail
          refine Calls.mono HI.out ?_
          rintro e w4 ⟨rfl, rfl⟩
          go_wp2_with fail
          go_ret
          exact ⟨i, rfl, by rw [HE.out]; simp, HW.out.2⟩
      · have ha' : 128 ≤ (s[i]'hi).toNat := by omega
        have hnx := fun ty => run_next_any_at (P := Tryz.prog) w2 K s i ty HB.out.1 hi
        have HS := hid (HB.out.2.2.2.skip hi ha')
        obtain ⟨d1, d2⟩ := decode_high s i hi ha'
        have d3 := decode_le s i
        obtain ⟨q, hq⟩ : ∃ q, (Utf8.decode s i).1 = q := ⟨_, rfl⟩
        obtain ⟨p, hp'⟩ : ∃ p, (Utf8.decode s i).2 = p := ⟨_, rfl⟩
        rw [hq] at d1 d3 hnx
        rw [hp'] at d2 hnx HS
        obtain ⟨w3, hw3⟩ : ∃ w3, w2.iterAt K s (i + p) = w3 := ⟨_, rfl⟩
        have HW : Hid (w3.heap[K]? = some (.stringIter s (i + p)) ∧ Touch [] w1 w3) := hid (hw3 ▸ HB.out.at_ (i + p))
        rw [hw3] at hnx
        have HI : Hid _ := indexRune_hi (q : Int) (by omega) (by omega) w3
        have HK := hid hi
        have Hd := hid d2
        clear ha' hq hp' d1 d2 d3 hw3 ha
        go_wp2_with fail
        refine Calls.mono HI.out ?_
        rintro e w4 ⟨rfl, t4⟩
        have HN2 : Hid (It w1 K s w4 (i + p)) := hid ⟨t4.keep HW.out.1 (by simp), HW.out.2.trans' t4, HB.out.2.2.1, HS.out⟩
        clear t4
        go_wp2_with fail
        go_roundw
        case rel => exact ⟨i + p, HN2⟩
        case measure => rw [hp, HN2.out.pos]; have := HK.out; have := Hd.out; omega
    · have hnx := fun ty => run_next_end_at (P := Tryz.prog) w2 K s i ty HB.out.1 hi
      have HE := hid (HB.out.2.2.2.end_ (by omega))
      go_wp2_with fail
      go_ret
      exact ⟨-1, rfl, by rw [HE.out]; rfl, HB.out.2.1⟩
end Go.Proofs.YtlffleigahfdlaaGreatDoor.Tr
