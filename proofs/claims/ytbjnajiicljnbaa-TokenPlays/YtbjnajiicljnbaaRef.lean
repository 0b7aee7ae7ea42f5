/- The document's tokens in memory; the contracts of the document's Is and Hangs, and of the law's same. -/
import Derived.Test.YtbjnajiicljnbaaStp
namespace Go.Proofs.Ytbjnajiicljnbaa
open Go.RowKit Go.Maps Go.ChangeMaps
set_option linter.unusedVariables false
theorem info39 : (Try.prog.info? 39).map (fun i => (i.zero, i.size, i.bytes)) = some (some (.agg #[.int .i64 0, .int .i64 0, .int .i64 0]), 3, 24) := by kernel_rfl
/-- The document's tokens. -/
def RR (w : World) (B g c : Nat) (S : List Tk) : Prop := w.ownsRow B 39 3 (.slice (some ⟨g, 0, none⟩) S.length c) S.length (flat3 S)
section
variable {w w' : World} {B B' g c : Nat} {S S' : List Tk}
theorem RR.keep {F : List Nat} (h : RR w B g c S) (T : Touch F w w') (hg : ¬ g ∈ F) : RR w' B g c S := own_touch h T (fun b hb => by simp [Value.ownBlock] at hb; rw [← hb]; exact hg)
theorem RR.keep0 (h : RR w B g c S) (T : Touch [] w w') : RR w' B g c S := h.keep T (by simp)
theorem RR.block (h : RR w B g c S) (e : w'.heap[g]? = w.heap[g]?) : RR w' B g c S := own_keep h (fun b hb => by simp [Value.ownBlock] at hb; rw [← hb]; exact e)
theorem RR.lt (h : RR w B g c S) : B ≤ g ∧ g < w.heap.size := World.ownsRow.lt h g rfl
theorem RR.base (h : RR w B g c S) (hb : B' ≤ B) : RR w B' g c S := own_base h hb
theorem RR.cells (h : RR w B g c S) {m : Nat} (h1 : 1 ≤ m) (h2 : m ≤ S.length) :
    w.cell? ⟨g, (m - 1) * 3, none⟩ = some (.int .i64 ((tk S m).par : Nat)) ∧ w.cell? ⟨g, (m - 1) * 3 + 1, none⟩ = some (.int .i64 ((tk S m).hol : Nat)) ∧ w.cell? ⟨g, (m - 1) * 3 + 2, none⟩ = some (.int .i64 ((tk S m).why : Nat)) := by
  obtain ⟨a0, a1, a2⟩ := flat3_at S (m - 1) (by omega)
  exact ⟨own_cell h a0, own_cell h a1, own_cell h a2⟩
theorem RR.frz (h : RR w B g c S) (p : Nat) : w.frozen? ⟨g, p, none⟩ = false := own_frozen h p
theorem RR.cap (h : RR w B g c S) : S.length ≤ c ∧ c ≤ 9223372036854775807 := by
  obtain ⟨cur, hc, hn, hm, _⟩ := own_block h
  unfold maxLen at hm
  exact ⟨hn, by omega⟩
theorem RR.set (h : RR w B g c S) (p : Nat) (v : Value) (hl : S'.length = S.length) (hf : flat3 S' = (flat3 S).set p v) : RR (w.setCell ⟨g, p, none⟩ v) B g c S' := by
  unfold RR
  rw [hl, hf]
  exact own_set h p v
end
section
variable (w : World) (B g c : Nat) (S : List Tk)
theorem ris9 (i : Int) : Calls Try.prog 9 #[.slice (some ⟨g, 0, none⟩) S.length c, .int .i64 i] w fun e w' => e = .returned (.bool (vaB S i)) ∧ w' = w := by
  unfold vaB
  generalize S.length = N
  by_cases h1 : 1 ≤ i
  · rw [decide_eq_true h1, Bool.true_and]
    go_enter Try.func9, Try.ntmps9
    go_wp2
    go_ret
    exact ⟨rfl, rfl⟩
  · rw [decide_eq_false h1, Bool.false_and]
    go_enter Try.func9, Try.ntmps9
    go_wp2
    go_ret
    exact ⟨rfl, rfl⟩
set_option maxHeartbeats 1000000 in
set_option maxRecDepth 100000 in
theorem rhangs28 (h : RR w B g c S) (ok : Ok S) (hle : S.length ≤ 65536) (m n : Nat) (h1 : 1 ≤ m) (h2 : m ≤ S.length) : Calls Try.prog 28 #[.slice (some ⟨g, 0, none⟩) S.length c, .int .i64 (m : Nat), .int .i64 (n : Nat)] w fun e w' => e = .returned (.bool (hg S m n)) ∧ w' = w := by
  obtain ⟨x0, -, -⟩ := h.cells h1 h2
  have HR : Hid (∀ k, k + 1 ≤ S.length → w.cell? ⟨g, k * 3, none⟩ = some (.int .i64 ((tk S (k + 1)).par : Nat)) ∧ (tk S (k + 1)).par < k + 1 ∧ hg S (k + 1) n = if (tk S (k + 1)).par = 0 then false else if (tk S (k + 1)).par = n then true else hg S (tk S (k + 1)).par n) := fun k hk => by
    obtain ⟨y0, -, -⟩ := h.cells (m := k + 1) (by omega) hk
    exact ⟨y0, ok.par _ (by omega) hk, hg_eq ok.par (by omega) n⟩
  obtain ⟨i, rfl⟩ : ∃ i, m = i + 1 := ⟨m - 1, by omega⟩
  rw [Nat.add_sub_cancel] at x0
  obtain ⟨-, hp, he⟩ := HR.out i h2
  have HE := hid he
  have HP := hid (And.intro hp h2)
  clear h ok he hp
  generalize S.length = N at *
  have z1 : ((i + 1 : Nat) : Int) = (i : Int) + 1 := by omega
  have z2 : (i : Int) + 1 ≤ (N : Int) := by omega
  have z3 : (N : Int) ≤ 65536 := by omega
  clear h1 h2 hle
  go_enter Try.func28, Try.ntmps28
  go_wp2
  clear z1 z2 x0
  go_loop [7] (fun s => ∃ p : Nat, s = .int .i64 (p : Nat) ∧ Hid (p ≤ N ∧ hg S (i + 1) n = if p = 0 then false else if p = n then true else hg S p n)) (fun s => (intOf s).toNat)
  case atStart => exact ⟨_, rfl, by have := HP.out; omega, HE.out⟩
  case round =>
    obtain ⟨p, rfl, HQ⟩ := hrel
    by_cases e0 : p = 0
    · subst e0
      have HX : Hid (hg S (i + 1) n = false) := HQ.out.2
      go_wp2
      go_ret
      exact ⟨by rw [HX.out]; rfl, rfl⟩
    · obtain ⟨k, rfl⟩ : ∃ k, p = k + 1 := ⟨p - 1, by omega⟩
      obtain ⟨y0, hp, he⟩ := HR.out k HQ.out.1
      have zk : ((k + 1 : Nat) : Int) = (k : Int) + 1 := by omega
      have zk2 : (k : Int) + 1 ≤ (N : Int) := by have := HQ.out.1; omega
      have zk3 : (0 : Int) ≤ (k : Int) := by omega
      have zk0 : ((k : Int) + 1 != 0) = true := by rw [bne_iff_ne]; omega
      by_cases e1 : k + 1 = n
      · have HX : Hid (hg S (i + 1) n = true) := by
          have := HQ.out.2
          rw [if_neg (by omega), if_pos e1] at this
          exact this
        have ze : ((k : Int) + 1 == (n : Int)) = true := by rw [beq_iff_eq]; omega
        clear e0 e1 hp he HQ
        generalize (n : Int) = ni at *
        go_wp2
        go_ret
        exact ⟨by rw [HX.out]; rfl, rfl⟩
      · have HX : Hid (hg S (i + 1) n = if (tk S (k + 1)).par = 0 then false else if (tk S (k + 1)).par = n then true else hg S (tk S (k + 1)).par n) := by
          have := HQ.out.2
          rw [if_neg (by omega), if_neg e1, he] at this
          exact this
        have ze : ((k : Int) + 1 == (n : Int)) = false := by
          have : (k : Int) + 1 ≠ (n : Int) := by omega
          simpa using this
        have HY := hid (And.intro hp HQ.out.1)
        clear e0 e1 hp he HQ
        generalize hni : (n : Int) = ni at *
        clear hni
        go_wp2
        go_round
        case rel => exact ⟨_, rfl, by have := HY.out; omega, HX.out⟩
        case measure => have := HY.out; simp [intOf]; omega
set_option maxHeartbeats 1000000 in
theorem same11 (B' : Nat) (a b : Value) (l : List Nat) (ha : RI w B a l) (hb : RI w B' b l) (hl : l.length ≤ 65536) : Calls Try.prog 11 #[a, b] w fun e w' => e = .returned (.bool true) ∧ Touch [] w w' := by
  obtain ⟨a1, c1, rfl⟩ := ha.form
  obtain ⟨a2, c2, rfl⟩ := hb.form
  have HA := hid ha
  have HB := hid hb
  clear ha hb
  obtain ⟨N, hN⟩ : ∃ N, N = l.length := ⟨_, rfl⟩
  have HN := hid hN
  rw [← hN] at HA HB hl ⊢
  clear hN
  have zl : (N : Int) < 9223372036854775807 := by omega
  clear hl
  go_enter Try.func11, Try.ntmps11
  go_wp2
  go_loopw [13] (fun i wr => ∃ n : Nat, i = .int .i64 n ∧ n ≤ N ∧ Hid (Touch [] w wr)) (fun i _ => N - (intOf i).toNat)
  case atStart => exact ⟨0, rfl, Nat.zero_le _, Touch.refl _ _⟩
  case round =>
    obtain ⟨n, rfl, hn, HT⟩ := hrel
    by_cases hlt : n < N
    · have zn : (n : Int) < (N : Int) := by omega
      obtain ⟨k, hk⟩ : ∃ k, l[n]? = some k := ⟨_, List.getElem?_eq_getElem (by have := HN.out; omega)⟩
      obtain ⟨g1, o1, rfl, y1⟩ := (HA.out.keep0 HT.out).cell hk
      obtain ⟨g2, o2, rfl, y2⟩ := (HB.out.keep0 HT.out).cell hk
      clear hk
      generalize (k : Int) = ki at *
      go_wp2
      go_quiet (fail)
      go_wp2
      go_roundw
      case rel => exact ⟨n + 1, by go_num, by omega, HT.out.drewN _⟩
      case measure => simp [intOf]; omega
    · have zn : ¬ (n : Int) < (N : Int) := by omega
      go_wp2
      go_ret
      exact ⟨rfl, HT.out⟩
end
end Go.Proofs.Ytbjnajiicljnbaa
