/- A line read, by the program; the conditions: the table and the library's variables hold what the start lays, the line is within the form's reach. -/
import Derived.Test.YthakboiecdjgnaaDoorKtf
namespace Go.Proofs.YthakboiecdjgnaaDoor.Kt
open Go.RowKit Go.Sort Go.Shelf
open Go.Proofs.YthakboiecdjgnaaDoor.Ci
set_option linter.unusedVariables false
theorem cut_ (s : ByteArray) (x : UInt8) (w : World) (hS : Sy w) (hs : s.size < 4294967281) :
    Calls Tryd.prog 36 #[.string s, .string ⟨#[x]⟩] w fun e w' => e = .returned (.tuple #[.string ⟨(Lib.cut s.data.toList [x]).1.toArray⟩, .string ⟨(Lib.cut s.data.toList [x]).2.1.toArray⟩, .bool (Lib.cut s.data.toList [x]).2.2]) ∧ Touch [] w w' := by
  obtain ⟨m, hm⟩ := hS.ml
  exact (Tryd.strings_Cut s ⟨#[x]⟩ m w hs hm).mono fun e w' ⟨he, n, hn⟩ => ⟨he, by rw [hn]; exact ((Gr.refl w).drewN n).touch⟩
theorem last_ (s : ByteArray) (w : World) (hs : s.size < 4294967281) :
    Calls Tryd.prog 58 #[.string s, .string ⟨#[32]⟩] w fun e w' => e = .returned (.int .i64 (Lib.lastIndexByte s 32)) ∧ w' = w :=
  Tryd.strings_LastIndex_one s ⟨#[32]⟩ rfl (by omega) w
theorem pint_ (s : ByteArray) (w : World) (hS : Sy w) (hs : s.size < 4294967281) :
    Calls Tryd.prog 59 #[.string s, .int .i64 10, .int .i64 64] w fun e w' => ∃ ev, e = .returned (.tuple #[.int .i64 (piV s.data.toList), ev]) ∧ Touch [] w w' := by
  obtain ⟨te, pe, h3⟩ := hS.es
  obtain ⟨te', pe', h4⟩ := hS.er
  cases h : Lib.parseIntB 64 s.data.toList with
  | ok v =>
    have e : piV s.data.toList = v := by unfold piV; rw [h]
    rw [e]
    refine (Tryd.strconv_ParseInt_10_at64_ok s (by omega) v h w).mono fun e w' ⟨he, hw⟩ => ⟨_, he, ?_⟩
    rcases hw with rfl | ⟨t, rfl⟩
    · exact Touch.refl [] _
    · exact Touch.of_below (Lib.bytesWorld_below w 5 t)
  | range =>
    have e : piV s.data.toList = Lib.intSat 64 s.data.toList := by unfold piV; rw [h]
    rw [e]
    exact (Tryd.strconv_ParseInt_10_at64_range_var s (by omega) h te' pe' w h4).mono fun e w' ⟨N, he, _, _, hb⟩ => ⟨_, he, Touch.of_below hb⟩
  | _ =>
    have e : piV s.data.toList = 0 := by unfold piV; rw [h]
    rw [e]
    exact Calls.mono (P := Tryd.prog) (f := 59) (Any.strconv_ParseInt_10_at64_syntax_var Tryd.laysC174 s (by omega) h te pe w h3) fun e w' ⟨N, he, _, _, hb⟩ => ⟨_, he, Touch.of_below hb⟩
theorem opOf_ (s : ByteArray) (w : World) (hk : Kd w) :
    Calls Tryd.prog 57 #[.string s] w fun e w' => e = .returned (.int .i64 (opZ s)) ∧ w' = w := by
  have HS : Hid (Kd w) := hk
  clear hk
  go_enter Tryd.func57, Tryd.ntmps57
  go_wp2
  go_loop [3] (fun i => ∃ j : Nat, i = .int .i64 j ∧ 1 ≤ j ∧ j ≤ 10 ∧ Hid (∀ k, 1 ≤ k → k < j → kWord k ≠ s)) (fun i => 10 - (intOf i).toNat)
  case atStart => exact ⟨1, rfl, by omega, by omega, fun k h1 h2 => by omega⟩
  case round =>
    obtain ⟨j, rfl, hj1, hj2, HN⟩ := hrel
    by_cases hlt : j ≤ 9
    · have hz : (j : Int) ≤ 9 := by omega
      have k3 : (j : Int) < 10 := by omega
      have k4 : (0 : Int) ≤ (j : Int) := by omega
      have c0 := HS.out.word j (by omega)
      by_cases he : kWord j = s
      · have hb : ((kWord j).toList == s.toList) = true := (beqB _ _).2 he
        have HR : Hid (opZ s = j) := by show opZ s = j; rw [← he]; exact opZ_hit j hj1 hlt
        clear he
        generalize kWord j = wd at *
        go_wp2
        go_ret
        exact ⟨by rw [HR.out]; rfl, rfl⟩
      · have hb : ((kWord j).toList == s.toList) = false := Bool.eq_false_iff.2 (fun h => he ((beqB _ _).1 h))
        have HN2 : Hid (∀ k, 1 ≤ k → k < j + 1 → kWord k ≠ s) := fun k h1 h2 => by
          rcases Nat.lt_or_ge k j with h | h
          · exact HN.out k h1 h
          · rw [show k = j by omega]; exact he
        clear he
        generalize kWord j = wd at *
        go_wp2
        go_round
        case rel => exact ⟨j + 1, by go_num, by omega, by omega, HN2.out⟩
        case measure => simp [intOf]; omega
    · have hz : ¬ (j : Int) ≤ 9 := by omega
      have HR : Hid (opZ s = 0) := opZ_no (fun k h1 h2 => HN.out k h1 (by omega))
      go_wp2
      go_ret
      exact ⟨by rw [HR.out]; rfl, rfl⟩
theorem kparse_ (s : ByteArray) (w : World) (hs : s.size < 4294967281) :
    Calls Tryd.prog 60 #[.string s] w fun e w' => ∃ (i e2 : Int), e = .returned (.tuple #[.agg #[.int .u16 (kp s).1, .string (kp s).2.1], .int .i64 i, .int .i64 e2]) ∧ Touch [] w w' := by
  obtain ⟨N, I, hN⟩ : ∃ N I, scan s.data.toList 0 0 = (N, I) := ⟨_, _, rfl⟩
  have hle := scan_le s.data.toList 0 0 (by omega)
  rw [hN] at hle
  have hI : I ≤ s.size := by have e : s.size = s.data.toList.length := rfl; omega
  by_cases ht : isText s I
  · have e : kp s = (N, s.extract (I + 1) s.size, true) := by unfold kp; rw [hN]; exact if_pos ht
    rw [e]
    obtain ⟨h0, ⟨hlt, h58⟩, hl⟩ := ht
    exact (parse14_ok s w (by omega) N I hN h0 hlt h58 hl).mono fun e w' ⟨he, hb⟩ => ⟨_, _, he, Touch.of_below hb⟩
  · have e : kp s = (0, ⟨#[]⟩, false) := by unfold kp; rw [hN]; exact if_neg ht
    rw [e]
    by_cases hb : isBad s I
    · exact (parse14_bad s w (by omega) N I hN hI hb).mono fun e w' ⟨he, hb⟩ => ⟨_, _, he, Touch.of_below hb⟩
    · have h0 : I ≠ 0 := fun h => hb (Or.inl h)
      have h1 : I ≠ s.size := fun h => hb (Or.inr (Or.inl h))
      have hlt : I < s.size := by omega
      have h58 : s[I].toNat = 58 := Classical.byContradiction fun h => hb (Or.inr (Or.inr ⟨hlt, h⟩))
      have hl : 64 < s.size - (I + 1) := Classical.byContradiction fun h => ht ⟨h0, ⟨hlt, h58⟩, by omega⟩
      exact (parse14_long s w (by omega) N I hN h0 hlt h58 hl).mono fun e w' ⟨he, hb⟩ => ⟨_, _, he, Touch.of_below hb⟩
/-- a thing to do in a box of one's own, and what else stays -/
structure Bx (w : World) (b : Nat) (x0 x1 x2 x3 x4 : Value) : Prop where
  c0 : w.cell? ⟨b, 0, none⟩ = some x0
  c1 : w.cell? ⟨b, 1, none⟩ = some x1
  c2 : w.cell? ⟨b, 2, none⟩ = some x2
  c3 : w.cell? ⟨b, 3, none⟩ = some x3
  c4 : w.cell? ⟨b, 4, none⟩ = some x4
  fz : ∀ o, w.frozen? ⟨b, o, none⟩ = false
theorem Bx.lt {w : World} {b : Nat} {x0 x1 x2 x3 x4 : Value} (h : Bx w b x0 x1 x2 x3 x4) : b < w.heap.size := cell_lt h.c0
theorem Bx.touch {w w' : World} {b : Nat} {x0 x1 x2 x3 x4 : Value} (h : Bx w b x0 x1 x2 x3 x4) (t : Touch [] w w') : Bx w' b x0 x1 x2 x3 x4 :=
  ⟨tcell t h.c0, tcell t h.c1, tcell t h.c2, tcell t h.c3, tcell t h.c4, fun o => tfz t (h.fz o) h.lt⟩
end Go.Proofs.YthakboiecdjgnaaDoor.Kt
