/- What stands behind the last blank, by the document; and a key read, and a guess at a line; the text is within the form's reach. -/
import Derived.Test.YthakboiecdjgnaaDoorKte
import Derived.Test.YthakboiecdjgnaaDoorCfo
import Derived.Deep.RegionWith
namespace Go.Proofs.YthakboiecdjgnaaDoor.Kt
open Go.RowKit Go.Sort Go.Shelf
open Go.Proofs.YthakboiecdjgnaaDoor.Ci
set_option linter.unusedVariables false
/-- what the document's last tells -/
def lastZ (s : ByteArray) : ByteArray × ByteArray := if Lib.lastIndexByte s 32 = -1 then (⟨#[]⟩, s) else (s.extract 0 (Lib.lastIndexByte s 32).toNat, s.extract ((Lib.lastIndexByte s 32).toNat + 1) s.size)
theorem get_bang (s : ByteArray) (i : Nat) (h : i < s.size) : s.data[i]! = s[i] := by
  rw [getElem!_pos s.data i h]
  rfl
theorem lastZ_no {s : ByteArray} (h : ∀ j, (hj : j < s.size) → s[j].toNat ≠ 32) : lastZ s = (⟨#[]⟩, s) := by
  unfold lastZ
  rcases Lib.lastIndexByte_spec s 32 with ⟨e, _⟩ | ⟨i, hi, e, hc, _⟩
  · rw [if_pos e]
  · rw [get_bang s i hi] at hc
    exact absurd (by omega) (h i hi)
theorem lastZ_at {s : ByteArray} (k : Nat) (hk : k < s.size) (h0 : s[k].toNat = 32) (h : ∀ j, (hj : j < s.size) → k < j → s[j].toNat ≠ 32) : lastZ s = (s.extract 0 k, s.extract (k + 1) s.size) := by
  unfold lastZ
  rcases Lib.lastIndexByte_spec s 32 with ⟨_, hn⟩ | ⟨i, hi, e, hc, hn⟩
  · have := hn k hk
    rw [get_bang s k hk] at this
    exact absurd (by omega) this
  · rw [get_bang s i hi] at hc
    have : i = k := by
      rcases Nat.lt_trichotomy i k with h1 | h1 | h1
      · have := hn k h1 hk
        rw [get_bang s k hk] at this
        exact absurd (by omega) this
      · exact h1
      · exact absurd (by omega) (h i hi h1)
    subst this
    rw [e, if_neg (by omega), show ((i : Int)).toNat = i by omega]
set_option maxRecDepth 20000 in
set_option maxHeartbeats 1000000 in
theorem last62 (s : ByteArray) (w : World) (hs : s.size ≤ 281474976710656) : Calls Tryd.prog 62 #[.string s] w fun e w' => e = .returned (.tuple #[.string (lastZ s).1, .string (lastZ s).2]) ∧ Gr w w' := by
  go_enter Tryd.func62, Tryd.ntmps62
  go_wp2
  go_loopw [4] (fun i wr => ∃ k : Nat, i = .int .i64 k ∧ k ≤ s.size ∧ Hid (∀ j, (hj : j < s.size) → k ≤ j → s[j].toNat ≠ 32) ∧ Gr w wr) (fun i _ => (intOf i).toNat)
  case atStart => exact ⟨s.size, rfl, Nat.le_refl _, fun j hj h => by omega, Gr.refl _⟩
  case round =>
    obtain ⟨k, rfl, hk, HN, G⟩ := hrel
    by_cases h0 : k = 0
    · subst h0
      have HE : Hid (lastZ s = (⟨#[]⟩, s)) := lastZ_no (fun j hj => HN.out j hj (Nat.zero_le _))
      go_wp2
      go_ret2
      exact ⟨by rw [HE.out]; rfl, G⟩
    · obtain ⟨m, rfl⟩ : ∃ m, k = m + 1 := ⟨k - 1, by omega⟩
      have hz : (0 : Int) < ((m + 1 : Nat) : Int) := by omega
      have hlt : m < s.size := by omega
      have hz1 : (((m + 1 : Nat) : Int) - 1) = (m : Int) := by omega
      have hz2 : (m : Int) < (s.size : Int) := by omega
      by_cases h32 : s[m].toNat = 32
      · have HE : Hid (lastZ s = (s.extract 0 m, s.extract (m + 1) s.size)) := lastZ_at m hlt h32 (fun j hj h => HN.out j hj h)
        have hb : ((m + 1 : Nat) : Int) ≠ 0 := by omega
        have hb2 : ((((m + 1 : Nat) : Int)) == 0) = false := by simpa using hb
        have h32' : (s[m].toNat : Int) = 32 := by omega
        have hr1 : ∀ w, (Instr.slice 9 (.string s) none (some (.int .i64 (m : Int))) none).run Tryd.prog w = .ok (.string (s.extract 0 m)) w := fun w => by
          rw [run_slice_string_h w 9 s Tryd.underlying9 .i64 (m : Int) (by omega) (by omega), show ((m : Int)).toNat = m by omega]
        have hr2 : ∀ w, (Instr.slice 9 (.string s) (some (.int .i64 ((m + 1 : Nat) : Int))) none none).run Tryd.prog w = .ok (.string (s.extract (m + 1) s.size)) w := fun w => by
          rw [run_slice_string_l w 9 s Tryd.underlying9 .i64 ((m + 1 : Nat) : Int) (by omega) (by omega), show (((m + 1 : Nat) : Int)).toNat = m + 1 by omega]
        go_wp2
        go_quiet (fail)
        go_wp2
        go_ret2
        exact ⟨by rw [HE.out]; rfl, by first | exact G | exact G.drewN _ | exact G.drew | exact G.grow _ _⟩
      · have h32' : ¬ (s[m].toNat : Int) = 32 := by omega
        have HN2 : Hid (∀ j, (hj : j < s.size) → m ≤ j → s[j].toNat ≠ 32) := fun j hj h => by
          rcases Nat.lt_or_ge m j with h1 | h1
          · exact HN.out j hj h1
          · have : j = m := by omega
            subst this
            exact h32
        go_wp2
        go_roundw
        case rel => exact ⟨m, by go_num, by omega, HN2.out, G⟩
        case measure => simp [intOf]
theorem kparseR_ (s : ByteArray) (w : World) (hs : s.size < 4294967281) :
    Calls Tryd.prog 63 #[.string s] w fun e w' => ∃ (i : Int), e = .returned (.tuple #[.agg #[.int .u16 (kp s).1, .string (kp s).2.1], .int .i64 i]) ∧ ((kp s).2.2 = true ↔ i < 0) ∧ Touch [] w w' := by
  obtain ⟨N, I, hN⟩ : ∃ N I, scan s.data.toList 0 0 = (N, I) := ⟨_, _, rfl⟩
  have hle := scan_le s.data.toList 0 0 (by omega)
  rw [hN] at hle
  have hI : I ≤ s.size := by have e : s.size = s.data.toList.length := rfl; omega
  by_cases ht : isText s I
  · have e : kp s = (N, s.extract (I + 1) s.size, true) := by unfold kp; rw [hN]; exact if_pos ht
    rw [e]
    obtain ⟨h0, ⟨hlt, h58⟩, hl⟩ := ht
    have hA : refAns s N I (.tuple #[.agg #[.int .u16 N, .string (s.extract (I + 1) s.size)], .int .i64 (-1)]) :=
      ⟨(fun hb => by rcases hb with h | h | ⟨h, h'⟩; exact absurd h h0; omega; exact absurd h58 h'), (fun h => by have := h.2.2; omega), fun _ => rfl⟩
    exact (ref15 s w (by omega) N I _ hN hA).mono fun e w' ⟨he, hb⟩ => ⟨_, he, by simp, Touch.of_below hb⟩
  · have e : kp s = (0, ⟨#[]⟩, false) := by unfold kp; rw [hN]; exact if_neg ht
    rw [e]
    by_cases hb : isBad s I
    · have hA : refAns s N I (.tuple #[zeroKey, .int .i64 I]) :=
        ⟨fun _ => rfl, (fun h => by obtain ⟨h0, ⟨hlt, h58⟩, _⟩ := h; rcases hb with h | h | ⟨h, h'⟩; exact absurd h h0; omega; exact absurd h58 h'), fun h => absurd h ht⟩
      exact (ref15 s w (by omega) N I _ hN hA).mono fun e w' ⟨he, hb⟩ => ⟨_, he, by simp, Touch.of_below hb⟩
    · have hA : refAns s N I (.tuple #[zeroKey, .int .i64 ((I : Int) + 1 + 64)]) := ⟨fun h => absurd h hb, fun _ => rfl, fun h => absurd h ht⟩
      exact (ref15 s w (by omega) N I _ hN hA).mono fun e w' ⟨he, hb⟩ => ⟨_, he, by simp; omega, Touch.of_below hb⟩
end Go.Proofs.YthakboiecdjgnaaDoor.Kt
