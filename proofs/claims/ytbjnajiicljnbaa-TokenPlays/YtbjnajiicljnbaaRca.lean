/- The contract of the document's Cancel. -/
import Derived.Test.YtbjnajiicljnbaaRef
import Derived.Deep.CutRange
namespace Go.Proofs.Ytbjnajiicljnbaa
open Go.RowKit Go.Maps Go.ChangeMaps
set_option linter.unusedVariables false
theorem cell_one_at (w : World) (b : Nat) (hb : w.heap.size = b) (a : Value) (t : TypeId) : ∀ j u, [a][j]? = some u → (w.alloc (.cells #[a] t)).cell? ((⟨b, 0, none⟩ : Addr).add j) = some u := by
  subst hb
  exact cell_one_new w a t
theorem flat3_one {S : List Tk} : ∀ u ∈ flat3 S, u.oneCell' = true := by
  intro u hu
  unfold flat3 at hu
  rw [List.mem_flatMap] at hu
  obtain ⟨x, _, hx⟩ := hu
  simp [cells3] at hx
  rcases hx with rfl | rfl | rfl <;> rfl
/-- What a copy of the tokens starts from. -/
theorem copy_ahead {w : World} {B g c : Nat} {S : List Tk} (h : RR w B g c S) :
    (w.alloc (.cells #[] 39)).ownsRow w.heap.size 39 3 (.slice (some ⟨w.heap.size, 0, none⟩) 0 0) 0 [] ∧ (∀ j u, (flat3 S)[j]? = some u → (w.alloc (.cells #[] 39)).cell? ((⟨g, 0, none⟩ : Addr).add j) = some u) ∧ (flat3 S).length = S.length * 3 := by
  refine ⟨?_, fun j u hu => ?_, flat3_len S⟩
  · have := World.ownsRow_made (e := 39) (size := 3) w #[] 0 (Nat.le_refl _) (by unfold maxLen; omega) rfl
    simpa using this
  · have := own_cell (h.keep0 ((Touch.refl [] _).alloc (.cells #[] 39))) hu
    by_cases hj : j = 0
    · subst hj
      simpa [Addr.add] using this
    · simpa [Addr.add, hj] using this
def cnB (S : List Tk) (n m : Nat) : Bool := m == n || (hg S m n && liv S m)
def gonK (S : List Tk) (n k : Nat) : List Nat := (List.range' 1 k).filter (cnB S n)
theorem gonK_yes {S : List Tk} {n k : Nat} (h : cnB S n (k + 1) = true) : gonK S n (k + 1) = gonK S n k ++ [k + 1] := by
  unfold gonK
  rw [List.range'_1_concat, List.filter_append, Nat.add_comm 1 k]
  simp [h]
theorem gonK_no {S : List Tk} {n k : Nat} (h : cnB S n (k + 1) = false) : gonK S n (k + 1) = gonK S n k := by
  unfold gonK
  rw [List.range'_1_concat, List.filter_append, Nat.add_comm 1 k]
  simp [h]
theorem gonK_le (S : List Tk) (n k : Nat) : (gonK S n k).length ≤ k := by
  have := List.length_filter_le (cnB S n) (List.range' 1 k)
  unfold gonK
  simpa using this
theorem gonK_all {S : List Tk} {n : Nat} (hw : (tk S n).why = 0) : gonK S n S.length = gnL S n := by
  unfold gonK gnL
  rw [if_pos hw]
  rfl
/-- What the document's Cancel answers. -/
def RcE (e : Ending) (w w' : World) (S : List Tk) (n : Nat) : Prop := ∃ g c a k, e = .returned (.tuple #[.slice (some ⟨g, 0, none⟩) S.length c, .slice a (gnL S n).length k]) ∧ RR w' w.heap.size g c (canS S n) ∧ RI w' w.heap.size (.slice a (gnL S n).length k) (gnL S n) ∧ Touch [] w w'
/-- How it stands ahead of a round. -/
structure Rc (w wr : World) (g1 c1 : Nat) (a : Option Addr) (m k : Nat) (S : List Tk) (n i : Nat) : Prop where
  rr : RR wr w.heap.size g1 c1 (wyS n (gonK S n i) S)
  row : wr.ownsRow w.heap.size 3 1 (.slice a m k) m (ints (gonK S n i))
  len : m = (gonK S n i).length
  tc : Touch [] w wr
theorem row_row {w : World} {base base' e e' g c n k k' : Nat} {v : Value} {m : Nat} {xs ys : List Value} (h : w.ownsRow base e k (.slice (some ⟨g, 0, none⟩) n c) n xs) (h' : w.ownsRow base' e' k' v m ys) (he : e ≠ e') : ¬ g ∈ v.ownBlock.toList := by
  intro hb
  have hb : v.ownBlock = some g := by simpa using hb
  obtain ⟨cur, hc, _⟩ := own_block h
  obtain ⟨h1, h2 | ⟨g', cap, cur', rfl, hg, hcc, r⟩⟩ := h'
  · rw [h2.1] at hb; cases hb
  · simp [Value.ownBlock] at hb
    subst hb
    rw [hc] at hcc
    simp at hcc
    exact he hcc.2
theorem Rc.skip {w wr : World} {g1 c1 : Nat} {a : Option Addr} {m k : Nat} {S : List Tk} {n i : Nat} (h : Rc w wr g1 c1 a m k S n i) (hc : cnB S n (i + 1) = false) : Rc w wr g1 c1 a m k S n (i + 1) :=
  ⟨by rw [gonK_no hc]; exact h.rr, by rw [gonK_no hc]; exact h.row, by rw [gonK_no hc]; exact h.len, h.tc⟩
theorem Rc.store {w wr : World} {g1 c1 : Nat} {a : Option Addr} {m k : Nat} {S : List Tk} {n i : Nat} (h : Rc w wr g1 c1 a m k S n i) (hc : cnB S n (i + 1) = true) (hi : i < S.length) :
    RR (wr.setCell ⟨g1, i * 3 + 2, none⟩ (.int .i64 (n : Nat))) w.heap.size g1 c1 (wyS n (gonK S n (i + 1)) S) ∧ (wr.setCell ⟨g1, i * 3 + 2, none⟩ (.int .i64 (n : Nat))).ownsRow w.heap.size 3 1 (.slice a m k) m (ints (gonK S n i)) ∧ Touch [] w (wr.setCell ⟨g1, i * 3 + 2, none⟩ (.int .i64 (n : Nat))) := by
  have T : Touch [g1] wr (wr.setCell ⟨g1, i * 3 + 2, none⟩ (.int .i64 (n : Nat))) := (Touch.refl _ _).setCell (Or.inl (by simp)) _
  have hb := h.rr.lt.1
  refine ⟨?_, own_touch h.row T (fun b hb2 e => ?_), h.tc.trans T (fun j hj => Or.inr (by simp at hj; omega))⟩
  · have e : wyS n (gonK S n (i + 1)) S = (wyS n (gonK S n i) S).set i { tk (wyS n (gonK S n i) S) (i + 1) with why := n } := by
      rw [gonK_yes hc, wyS_snoc]; rfl
    refine h.rr.set _ _ (by rw [wyS_len, wyS_len]) ?_
    rw [e]
    exact flat3_why (by rw [wyS_len]; exact hi) n
  · simp at e
    subst e
    exact row_row h.rr h.row (by decide) (by simp [hb2])
theorem Rc.app {w wr w5 : World} {g1 c1 : Nat} {a : Option Addr} {m k : Nat} {S : List Tk} {n i g2 c2 : Nat} (hr : RR wr w.heap.size g1 c1 (wyS n (gonK S n (i + 1)) S)) (hrow : wr.ownsRow w.heap.size 3 1 (.slice a m k) m (ints (gonK S n i))) (T : Touch [] w wr) (hl : m = (gonK S n i).length) (hc : cnB S n (i + 1) = true)
    (h5 : w5.ownsRow w.heap.size 3 1 (.slice (some ⟨g2, 0, none⟩) (m + 1) c2) (m + 1) (ints (gonK S n i) ++ [.int .i64 ((i : Int) + 1)])) (T5 : Touch (Value.slice a m k).ownBlock.toList wr w5) : Rc w w5 g1 c1 (some ⟨g2, 0, none⟩) (m + 1) c2 S n (i + 1) := by
  refine ⟨hr.keep T5 (fun e => row_row hr hrow (by decide) e), ?_, by rw [gonK_yes hc, hl]; simp, T.trans T5 (fun j hj => Or.inr (hrow.lt j (by simpa using hj)).1)⟩
  rw [gonK_yes hc, ints_app]
  exact h5
section
variable (w : World) (B g c : Nat) (S : List Tk) (n : Nat)
set_option maxHeartbeats 1000000 in
set_option maxRecDepth 100000 in
theorem rcancel10_dead (h : RR w B g c S) (hle : S.length ≤ 65536) (h1 : 1 ≤ n) (h2 : n ≤ S.length) (hw : (tk S n).why ≠ 0) : Calls Try.prog 10 #[.slice (some ⟨g, 0, none⟩) S.length c, .int .i64 (n : Nat)] w fun e w' => RcE e w w' S n := by
  obtain ⟨i0, hi, hz0, hz1, hz2⟩ := info_parts info39
  obtain ⟨m1, m2, m3⟩ := copy_ahead h
  have HM := hid m1
  have HN := hid m2
  have HF := hid m3
  have HB : Hid (1 ≤ S.length ∧ S.length ≤ 65536) := ⟨by omega, hle⟩
  have HE : Hid (∀ g1 c1 w', RR w' w.heap.size g1 c1 S → Touch [] w w' → ∀ a, RcE (.returned (.tuple #[.slice (some ⟨g1, 0, none⟩) S.length c1, .slice a 0 0])) w w' S n) := fun g1 c1 w' r T a => by
    have e : gnL S n = [] := by unfold gnL; rw [if_neg hw]
    refine ⟨g1, c1, a, 0, by rw [e]; rfl, by unfold canS; rw [e]; exact r, by rw [e]; exact ⟨a, 0, rfl, Or.inl rfl⟩, T⟩
  have HW : Hid (∀ g1 c1 w', RR w' w.heap.size g1 c1 S → w'.cell? ⟨g1, (n - 1) * 3 + 2, none⟩ = some (.int .i64 ((tk S n).why : Nat))) := fun g1 c1 w' r => (r.cells h1 h2).2.2
  have hyw : (((tk S n).why : Int) != 0) = true := by rw [bne_iff_ne]; omega
  unfold RR at HW HE
  obtain ⟨i, rfl⟩ : ∃ i, n = i + 1 := ⟨n - 1, by omega⟩
  rw [Nat.add_sub_cancel] at HW
  clear h m1 m2 m3 hw
  generalize ((tk S (i + 1)).why : Int) = yw at *
  generalize S.length = N at *
  have z1 : ((i + 1 : Nat) : Int) = (i : Int) + 1 := by omega
  have z2 : (i : Int) + 1 ≤ (N : Int) := by omega
  have z3 : (N : Int) ≤ 65536 := by omega
  clear h1 h2 hle
  go_enter Try.func10, Try.ntmps10
  go_upto_region 2 with (at_builtin; refine wpList_append_lies _ rfl _ _ 26 rfl w.heap.size 39 i0 (.agg #[.int .i64 0, .int .i64 0, .int .i64 0]) 3 24 Try.underlying26 hi hz0 hz1 hz2 rfl (by decide) (.slice (some ⟨w.heap.size, 0, none⟩) 0 0) 0 [] rfl HM.out ⟨g, 0, none⟩ N c (flat3 S) rfl HF.out HN.out flat3_one (by have := HB.out; omega) (by have := HB.out; unfold maxLen; omega) (by have := HB.out; omega) (by simp) _ rfl ?_; intro g1 c1 w5 hown5 hgrow hat hlt5)
  have R : Hid (w5.ownsRow w.heap.size 39 3 (.slice (some ⟨g1, 0, none⟩) N c1) N (flat3 S) ∧ Touch [] w w5) := by
    rw [Nat.zero_add, List.nil_append] at hown5
    refine ⟨hown5, ((Touch.refl [] w).alloc _).grown hgrow (fun k hk => Or.inr ?_)⟩
    simp [Value.ownBlock] at hk
    omega
  clear hown5 hgrow hat hlt5
  have T6 : Touch [] w5 (w5.alloc (.cells #[] 3)) := (Touch.refl _ _).alloc _
  have x6 := HW.out g1 c1 _ (own_touch R.out.1 T6 (fun _ _ e => by cases e))
  have HX := hid (HE.out g1 c1 _ (own_touch R.out.1 T6 (fun _ _ e => by cases e)) (R.out.2.trans' T6))
  try simp only [Nat.zero_add]
  go_wp2
  exact bodyPost_ret (v := .tuple #[.slice (some ⟨g1, 0, none⟩) N c1, .slice (some ⟨w5.heap.size, 0, none⟩) 0 0]) (by simp [results, Try.results10, go_sem]) rfl (HX.out _)
set_option maxHeartbeats 1000000 in
set_option maxRecDepth 100000 in
theorem rcancel10_live (h : RR w B g c S) (ok : Ok S) (hle : S.length ≤ 65536) (h1 : 1 ≤ n) (h2 : n ≤ S.length) (hw : (tk S n).why = 0) : Calls Try.prog 10 #[.slice (some ⟨g, 0, none⟩) S.length c, .int .i64 (n : Nat)] w fun e w' => RcE e w w' S n := by
  obtain ⟨i0, hi, hz0, hz1, hz2⟩ := info_parts info39
  obtain ⟨i3, hi3, hy0, hy1, hy2⟩ := info_parts info3
  obtain ⟨m1, m2, m3⟩ := copy_ahead h
  have HM := hid m1
  have HN := hid m2
  have HF := hid m3
  have HB : Hid (1 ≤ S.length ∧ S.length ≤ 65536) := ⟨by omega, hle⟩
  have HL : Hid (∀ w' k, Touch [] w w' → k < S.length → (Calls Try.prog 28 #[.slice (some ⟨g, 0, none⟩) S.length c, .int .i64 ((k : Int) + 1), .int .i64 (n : Nat)] w' fun e w'' => e = .returned (.bool (hg S (k + 1) n)) ∧ w'' = w') ∧ w'.cell? ⟨g, k * 3 + 2, none⟩ = some (.int .i64 ((tk S (k + 1)).why : Nat))) := fun w' k T hk => by
    have h' := h.keep0 T
    obtain ⟨-, -, y⟩ := h'.cells (m := k + 1) (by omega) (by omega)
    exact ⟨rhangs28 w' B g c S h' ok hle (k + 1) n (by omega) (by omega), y⟩
  have HE : Hid (∀ g1 c1 a m k w', Rc w w' g1 c1 a m k S n S.length → RcE (.returned (.tuple #[.slice (some ⟨g1, 0, none⟩) S.length c1, .slice a m k])) w w' S n) := fun g1 c1 a m k w' r => by
    have e := gonK_all hw
    have r1 := r.rr
    have r2 := r.row
    have r3 := r.len
    rw [e] at r1 r2 r3
    subst r3
    exact ⟨g1, c1, a, k, rfl, r1, RI.of_own r2, r.tc⟩
  have HW : Hid (∀ g1 c1 w', RR w' w.heap.size g1 c1 S → w'.cell? ⟨g1, (n - 1) * 3 + 2, none⟩ = some (.int .i64 0)) := fun g1 c1 w' r => by
    have := (r.cells h1 h2).2.2
    rw [hw] at this
    exact this
  have HS : Hid (∀ g1 c1 w5, RR w5 w.heap.size g1 c1 S → Touch [] w w5 → Rc w (w5.alloc (.cells #[] 3)) g1 c1 (some ⟨w5.heap.size, 0, none⟩) 0 0 S n 0) := fun g1 c1 w5 r T => by
    have T6 : Touch [] w5 (w5.alloc (.cells #[] 3)) := (Touch.refl _ _).alloc _
    have hm := World.ownsRow_made (e := 3) (size := 1) w5 #[] 0 (Nat.le_refl _) (by unfold maxLen; omega) rfl
    refine ⟨by simpa [gonK, wyS] using r.keep0 T6, ?_, by simp [gonK], T.trans' T6⟩
    have := own_base hm T.size
    simpa [gonK, ints] using this
  have HSt : Hid (∀ wr g1 c1 a m k i, Rc w wr g1 c1 a m k S n i → i < S.length → wr.cell? ⟨g1, i * 3 + 2, none⟩ = some (.int .i64 ((tk (wyS n (gonK S n i) S) (i + 1)).why : Nat)) ∧ wr.frozen? ⟨g1, i * 3 + 2, none⟩ = false) := fun wr g1 c1 a m k i r hi => by
    obtain ⟨-, -, y⟩ := r.rr.cells (m := i + 1) (by omega) (by rw [wyS_len]; omega)
    exact ⟨y, r.rr.frz _⟩
  unfold RR at HW HS
  have HNn : Hid (∀ k : Nat, (((k : Int) + 1 == (n : Int)) = true → cnB S n (k + 1) = true ∧ (tk S (k + 1)).why = 0) ∧ (((k : Int) + 1 == (n : Int)) = false → cnB S n (k + 1) = (hg S (k + 1) n && liv S (k + 1)))) := fun k => by
    refine ⟨fun e => ?_, fun e => ?_⟩
    · have : k + 1 = n := by
        have := of_decide_eq_true e
        omega
      rw [this]
      exact ⟨by simp [cnB], hw⟩
    · have : k + 1 ≠ n := by
        intro h
        have : ((k : Int) + 1 == (n : Int)) = true := by rw [beq_iff_eq]; omega
        rw [this] at e
        cases e
      have : (k + 1 == n) = false := by simpa using this
      unfold cnB
      rw [this, Bool.false_or]
  obtain ⟨i, hin⟩ : ∃ i, n = i + 1 := ⟨n - 1, by omega⟩
  have z1 : (n : Int) - 1 = (i : Int) := by omega
  have z2 : (i : Int) < (S.length : Int) := by omega
  have ei : n - 1 = i := by omega
  rw [ei] at HW
  have HSo : Hid (∀ wr g1 c1 a m k i, Rc w wr g1 c1 a m k S n i → cnB S n (i + 1) = true → i < S.length → RR (wr.setCell ⟨g1, i * 3 + 2, none⟩ (.int .i64 (n : Nat))) w.heap.size g1 c1 (wyS n (gonK S n (i + 1)) S) ∧ (wr.setCell ⟨g1, i * 3 + 2, none⟩ (.int .i64 (n : Nat))).ownsRow w.heap.size 3 1 (.slice a m k) m (ints (gonK S n i)) ∧ Touch [] w (wr.setCell ⟨g1, i * 3 + 2, none⟩ (.int .i64 (n : Nat)))) := fun wr g1 c1 a m k i r hc hi => r.store hc hi
  clear h m1 m2 m3 hw ok hin ei
  generalize S.length = N at *
  have z3 : (N : Int) ≤ 65536 := by omega
  clear h1 h2 hle
  generalize (n : Int) = ni at *
  go_enter Try.func10, Try.ntmps10
  go_upto_region 2 with (at_builtin; refine wpList_append_lies _ rfl _ _ 26 rfl w.heap.size 39 i0 (.agg #[.int .i64 0, .int .i64 0, .int .i64 0]) 3 24 Try.underlying26 hi hz0 hz1 hz2 rfl (by decide) (.slice (some ⟨w.heap.size, 0, none⟩) 0 0) 0 [] rfl HM.out ⟨g, 0, none⟩ N c (flat3 S) rfl HF.out HN.out flat3_one (by have := HB.out; omega) (by have := HB.out; unfold maxLen; omega) (by have := HB.out; omega) (by simp) _ rfl ?_; intro g1 c1 w5 hown5 hgrow hat hlt5)
  have R : Hid (w5.ownsRow w.heap.size 39 3 (.slice (some ⟨g1, 0, none⟩) N c1) N (flat3 S) ∧ Touch [] w w5) := by
    rw [Nat.zero_add, List.nil_append] at hown5
    refine ⟨hown5, ((Touch.refl [] w).alloc _).grown hgrow (fun k hk => Or.inr ?_)⟩
    simp [Value.ownBlock] at hk
    omega
  clear hown5 hgrow hat hlt5
  have T6 : Touch [] w5 (w5.alloc (.cells #[] 3)) := (Touch.refl _ _).alloc _
  have x6 := HW.out g1 c1 _ (own_touch R.out.1 T6 (fun _ _ e => by cases e))
  have H0 := hid (HS.out g1 c1 _ R.out.1 R.out.2)
  try simp only [Nat.zero_add]
  clear R T6 HS HW HM HN HF
  go_wp2
  clear x6 z1 z2
  go_loopw [7, 24] (fun s7 s24 wr => ∃ a m k i, s7 = .slice a m k ∧ s24 = .int .i64 (i : Nat) ∧ i ≤ N ∧ Hid (Rc w wr g1 c1 a m k S n i)) (fun _ i _ => N - (intOf i).toNat)
  case atStart => exact ⟨_, _, _, 0, rfl, rfl, Nat.zero_le _, H0⟩
  case round =>
    clear H0
    obtain ⟨a, m, k, j, rfl, rfl, hj, HR⟩ := hrel
    have hbs := HR.out.tc.size
    by_cases hlt : j < N
    · have zj : (j : Int) < (N : Int) := by omega
      have hmj : m ≤ j := by rw [HR.out.len]; exact gonK_le S n j
      obtain ⟨HG, y⟩ := HL.out wr j HR.out.tc hlt
      have HG := hid HG
      obtain ⟨q1, q2⟩ := HSt.out wr g1 c1 a m k j HR.out hlt
      obtain ⟨n1, n2⟩ := HNn.out j
      have zw : IntKind.i64.wrap ((j : Int) + 1) = (j : Int) + 1 := by simp [IntKind.wrap, IntKind.bits, IntKind.signed]; omega
      have HJ : Hid (j < N ∧ m ≤ j) := ⟨hlt, hmj⟩
      have HS1 := hid (HSo.out wr g1 c1 a m k j HR.out)
      clear hj hmj
      by_cases b1 : ((j : Int) + 1 == ni) = true
      · obtain ⟨hc, hw0⟩ := n1 b1
        rw [hw0] at y
        change wr.cell? ⟨g, j * 3 + 2, none⟩ = some (.int .i64 0) at y
        have hni : ni = (j : Int) + 1 := by have := of_decide_eq_true b1; omega
        clear hw0 b1 n1 n2
        subst hni
        have b1 : ((j : Int) + 1 == (j : Int) + 1) = true := by simp
        obtain ⟨s1, s2, s3⟩ := HS1.out hc hlt
        have S1 := hid s1
        have S2 := hid s2
        have S3 := hid s3
        have HC := hid hc
        have hbv : w.heap.size ≤ (wr.setCell ⟨g1, j * 3 + 2, none⟩ (.int .i64 ((j : Int) + 1))).heap.size := s3.size
        clear s1 s2 s3 hc hlt HS1 HL HE HSt HSo HNn
        go_wp2_with (first
          | (at_builtin; refine wpList_append_lies _ rfl _ _ 29 rfl w.heap.size 3 i3 (.int .i64 0) 1 8 Try.underlying29 hi3 hy0 hy1 hy2 rfl (by decide) (.slice a m k) m (ints (gonK S n j)) rfl (S2.out.alloc _) ⟨_, 0, none⟩ 1 1 [.int .i64 ((j : Int) + 1)] rfl rfl (cell_one_at _ _ (by simp [World.setCell]) _ _) (by simp [Value.oneCell']) (by decide) (by have := HB.out; have := HJ.out; unfold maxLen; omega) (by have := HB.out; have := HJ.out; omega) (Nat.le_trans hbv (by simp)) _ rfl ?_; intro g2 c2 w5 hown5 hgrow hat hlt5; have H5 := hid (Rc.app S1.out S2.out S3.out HR.out.len HC.out hown5 (((Touch.refl _ _).alloc _).grown hgrow (fun j hj => Or.inl (by simp [hj])))); clear hown5 hgrow hat hlt5))
        go_roundw
        case rel => exact ⟨_, _, _, j + 1, rfl, by go_num, by have := HJ.out; omega, H5⟩
        case measure => have := HJ.out; simp [intOf]; omega
      · have b1 : ((j : Int) + 1 == ni) = false := by simpa using b1
        have hc0 := n2 b1
        by_cases b2 : hg S (j + 1) n = true
        · rw [b2] at HG hc0
          by_cases b3 : liv S (j + 1) = true
          · have hc : cnB S n (j + 1) = true := by rw [hc0, b3]; rfl
            have e : (tk S (j + 1)).why = 0 := by simpa [liv] using b3
            rw [e] at y
            change wr.cell? ⟨g, j * 3 + 2, none⟩ = some (.int .i64 0) at y
            clear e
            clear hc0 b2 b3
            obtain ⟨s1, s2, s3⟩ := HS1.out hc hlt
            have S1 := hid s1
            have S2 := hid s2
            have S3 := hid s3
            have HC := hid hc
            have hbv : w.heap.size ≤ (wr.setCell ⟨g1, j * 3 + 2, none⟩ (.int .i64 ni)).heap.size := s3.size
            clear n1 n2
            clear s1 s2 s3 hc hlt HS1 HL HE HSt HSo HNn
            go_wp2_with (first
              | (go_at_call 28; refine HG.out.mono ?_; rintro e w6 ⟨rfl, rfl⟩)
              | (at_builtin; refine wpList_append_lies _ rfl _ _ 29 rfl w.heap.size 3 i3 (.int .i64 0) 1 8 Try.underlying29 hi3 hy0 hy1 hy2 rfl (by decide) (.slice a m k) m (ints (gonK S n j)) rfl (S2.out.alloc _) ⟨_, 0, none⟩ 1 1 [.int .i64 ((j : Int) + 1)] rfl rfl (cell_one_at _ _ (by simp [World.setCell]) _ _) (by simp [Value.oneCell']) (by decide) (by have := HB.out; have := HJ.out; unfold maxLen; omega) (by have := HB.out; have := HJ.out; omega) (Nat.le_trans hbv (by simp)) _ rfl ?_; intro g2 c2 w5 hown5 hgrow hat hlt5; have H5 := hid (Rc.app S1.out S2.out S3.out HR.out.len HC.out hown5 (((Touch.refl _ _).alloc _).grown hgrow (fun j hj => Or.inl (by simp [hj])))); clear hown5 hgrow hat hlt5))
            go_roundw
            case rel => exact ⟨_, _, _, j + 1, rfl, by go_num, by have := HJ.out; omega, H5⟩
            case measure => have := HJ.out; simp [intOf]; omega
          · have b3 : liv S (j + 1) = false := by simpa using b3
            have hc : cnB S n (j + 1) = false := by rw [hc0, b3]; rfl
            have hyw : (((tk S (j + 1)).why : Int) == 0) = false := by
              have e : (tk S (j + 1)).why ≠ 0 := by simpa [liv] using b3
              have : ((tk S (j + 1)).why : Int) ≠ 0 := by omega
              simpa using this
            generalize ((tk S (j + 1)).why : Int) = yw at *
            clear hc0 b2 b3
            have H5 := hid (HR.out.skip hc)
            clear hc hlt n1 n2 HS1 HL HE HSt HSo HNn HR
            go_wp2_with (first
              | (go_at_call 28; refine HG.out.mono ?_; rintro e w6 ⟨rfl, rfl⟩))
            go_roundw
            case rel => exact ⟨_, _, _, j + 1, rfl, by go_num, by have := HJ.out; omega, H5⟩
            case measure => have := HJ.out; simp [intOf]; omega
        · have b2 : hg S (j + 1) n = false := by simpa using b2
          rw [b2] at HG hc0
          have hc : cnB S n (j + 1) = false := by rw [hc0]; rfl
          clear hc0 b2
          have H5 := hid (HR.out.skip hc)
          clear hc hlt n1 n2 HS1 HL HE HSt HSo HNn HR
          go_wp2_with (first
            | (go_at_call 28; refine HG.out.mono ?_; rintro e w6 ⟨rfl, rfl⟩))
          go_roundw
          case rel => exact ⟨_, _, _, j + 1, rfl, by go_num, by have := HJ.out; omega, H5⟩
          case measure => have := HJ.out; simp [intOf]; omega
    · have e : j = N := by omega
      subst e
      have zj : ¬ (j : Int) < (j : Int) := by omega
      have HX := hid (HE.out g1 c1 a m k wr HR.out)
      clear HL HE HSt HSo HNn
      go_wp2
      exact bodyPost_ret (v := .tuple #[.slice (some ⟨g1, 0, none⟩) j c1, .slice a m k]) (by simp [results, Try.results10, go_sem]) rfl HX.out
theorem rcancel10 (h : RR w B g c S) (ok : Ok S) (hle : S.length ≤ 65536) (h1 : 1 ≤ n) (h2 : n ≤ S.length) : Calls Try.prog 10 #[.slice (some ⟨g, 0, none⟩) S.length c, .int .i64 (n : Nat)] w fun e w' => RcE e w w' S n := by
  by_cases hw : (tk S n).why = 0
  · exact rcancel10_live w B g c S n h ok hle h1 h2 hw
  · exact rcancel10_dead w B g c S n h hle h1 h2 hw
end
end Go.Proofs.Ytbjnajiicljnbaa
