/- The document's words, digits, next word and Op of a word; the conditions: an Op from 1 to 12, a number of 64 bits, a place within the text. -/
import Derived.Test.YtgjojdlbighoaaaDoorRdr
import Derived.Test.YtgjojdlbighoaaaDoorStp
namespace Go.Proofs.YtgjojdlbighoaaaDoor
open Go.RowKit Go.Sort
set_option linter.unusedVariables false

theorem word41 (k : Nat) (h1 : 1 ≤ k) (h2 : k ≤ 12) (w : World) : Calls Tryd.prog 41 #[.int .i64 k] w fun e w' => e = .returned (.tuple #[.string (kWord k), .int .i64 (kNamed k)]) ∧ w' = w := by
  rcases (by omega : k = 1 ∨ k = 2 ∨ k = 3 ∨ k = 4 ∨ k = 5 ∨ k = 6 ∨ k = 7 ∨ k = 8 ∨ k = 9 ∨ k = 10 ∨ k = 11 ∨ k = 12) with rfl | rfl | rfl | rfl | rfl | rfl | rfl | rfl | rfl | rfl | rfl | rfl
  all_goals
    clear h1 h2
    simp only [kWord, kNamed]
    go_enter Tryd.func41, Tryd.ntmps41
    go_wp2
    go_ret2
    exact ⟨rfl, rfl⟩
theorem conv1 (W : World) (b cap : Nat) (x : Int) (hx : 0 ≤ x ∧ x ≤ 255) (c0 : W.cell? ⟨b, 0, none⟩ = some (.int .u8 x)) :
    (convert 123 9 (.slice (some ⟨b, 0, none⟩) 1 cap)).run Tryd.prog W = .ok (.string ⟨#[byt x]⟩) W := by
  refine run_convert_bytes_back W 123 9 5 ⟨b, 0, none⟩ cap [byt x] Tryd.underlying123 Tryd.underlying5 Tryd.underlying9 fun j hj => ?_
  match j, hj with
  | 0, _ => simp only [List.getElem_cons_zero]; rw [byt_toNat x hx.1 hx.2]; exact c0
theorem dec_step (n : Nat) (h : ¬ n < 10) : Lib.decDigits n = Lib.decDigits (n / 10) ++ [byt (48 + ((n % 10 : Nat) : Int))] := by
  rw [Lib.decDigits, dif_neg h]
  unfold byt
  rw [show (48 + ((n % 10 : Nat) : Int)).toNat = 48 + n % 10 by omega]
theorem dec_last (n : Nat) (h : n < 10) : Lib.decDigits n = [byt (48 + (n : Int))] := by
  rw [Lib.decDigits_one h]
  unfold byt
  rw [show (48 + (n : Int)).toNat = 48 + n by omega]
theorem dec_len : ∀ (k u : Nat), u < 10 ^ (k + 1) → (Lib.decDigits u).length ≤ k + 1 := by
  intro k
  induction k with
  | zero =>
    intro u hu
    rw [dec_last u (by omega)]
    simp
  | succ k ih =>
    intro u hu
    by_cases h : u < 10
    · rw [dec_last u h]
      simp
    · rw [dec_step u h, List.length_append]
      have := ih (u / 10) (by rw [Nat.pow_succ] at hu; omega)
      simp
      omega
/-- what the loop of the digits knows -/
def Dg (n m : Int) (S : ByteArray) : Prop := Lib.decDigits n.natAbs = Lib.decDigits m.natAbs ++ S.data.toList ∧ S.size ≤ 19 ∧ m.natAbs ≤ n.natAbs ∧ (0 ≤ n → 0 ≤ m) ∧ (n < 0 → m ≤ 0)
theorem tm_abs (m : Int) : (m.tmod 10).natAbs = m.natAbs % 10 := by rw [Int.natAbs_tmod]; rfl
theorem td_abs (m : Int) : (m.tdiv 10).natAbs = m.natAbs / 10 := by rw [Int.natAbs_tdiv]; rfl
theorem app_list (a b : ByteArray) : (a ++ b).data.toList = a.data.toList ++ b.data.toList := by simp
theorem dg_last {n m : Int} {S : ByteArray} (h : Dg n m S) (hm : m.natAbs < 10) (d : Int) (hd : d = (m.natAbs : Int)) : Lib.decDigits n.natAbs = ((⟨#[byt (48 + d)]⟩ : ByteArray) ++ S).data.toList := by
  subst hd
  rw [h.1, dec_last _ hm, app_list]
theorem dg_next {n m : Int} {S : ByteArray} (h : Dg n m S) (hm : ¬ m.natAbs < 10) (d q : Int) (hd : d = ((m.natAbs % 10 : Nat) : Int)) (hq : q.natAbs = m.natAbs / 10) (hs : (0 ≤ m → 0 ≤ q) ∧ (m ≤ 0 → q ≤ 0)) (hn : n.natAbs < 10 ^ 19) : Dg n q ((⟨#[byt (48 + d)]⟩ : ByteArray) ++ S) := by
  subst hd
  have h1 : Lib.decDigits n.natAbs = Lib.decDigits q.natAbs ++ ((⟨#[byt (48 + ((m.natAbs % 10 : Nat) : Int))]⟩ : ByteArray) ++ S).data.toList := by
    rw [h.1, dec_step _ hm, app_list, hq, List.append_assoc]
  have h2 := dec_len 18 n.natAbs hn
  refine ⟨h1, ?_, by have := h.2.2.1; omega, fun h0 => hs.1 (h.2.2.2.1 h0), fun h0 => hs.2 (h.2.2.2.2 h0)⟩
  rw [h1, List.length_append] at h2
  have h3 : ((⟨#[byt (48 + ((m.natAbs % 10 : Nat) : Int))]⟩ : ByteArray) ++ S).data.toList.length = ((⟨#[byt (48 + ((m.natAbs % 10 : Nat) : Int))]⟩ : ByteArray) ++ S).size := rfl
  omega
theorem itoa_pos {n : Int} {S : ByteArray} (h : Lib.decDigits n.natAbs = S.data.toList) (hn : 0 ≤ n) : itoaB n = S := by
  apply ByteArray.ext
  apply Array.toList_inj.1
  unfold itoaB Lib.itoa
  rw [if_neg (by omega), ← h, show n.toNat = n.natAbs by omega]
theorem itoa_min {n : Int} {S : ByteArray} (h : Lib.decDigits n.natAbs = S.data.toList) (hn : n < 0) : itoaB n = ⟨#[45]⟩ ++ S := by
  apply ByteArray.ext
  apply Array.toList_inj.1
  rw [app_list, ← h]
  unfold itoaB Lib.itoa
  rw [if_pos hn]
  simp
set_option maxRecDepth 20000 in
set_option maxHeartbeats 2000000 in
theorem digits42 (n : Int) (w : World) (hn : I64 n) : Calls Tryd.prog 42 #[.int .i64 n] w fun e w' => e = .returned (.string (itoaB n)) ∧ Gr w w' := by
  have HN : Hid (I64 n) := hn
  have hz := HN.out
  unfold I64 at hz
  have HZ : Hid (n.natAbs < 10 ^ 19) := by show n.natAbs < 10 ^ 19; omega
  clear hn hz
  go_enter Tryd.func42, Tryd.ntmps42
  go_wp2_with fail
  go_loopw [3, 4] (fun t i wr => ∃ (S : ByteArray) (m : Int), t = .string S ∧ i = .int .i64 m ∧ Hid (Dg n m S) ∧ Hid (Gr w wr)) (fun _ i _ => (intOf i).natAbs)
  case atStart => exact ⟨⟨#[]⟩, n, rfl, rfl, ⟨by simp, by decide, Nat.le_refl _, fun h => h, fun h => by omega⟩, Gr.refl _⟩
  case round =>
    obtain ⟨S, m, rfl, rfl, HD, HG⟩ := hrel
    have zs : S.size ≤ 19 := HD.out.2.1
    have zm : m.natAbs ≤ 9223372036854775808 := by have h1 := HD.out.2.2.1; have h2 := HN.out; unfold I64 at h2; omega
    have hm1 : -9223372036854775808 ≤ m := by omega
    have hm2 : m ≤ 9223372036854775807 := by
      have h1 := HD.out.2.2
      have h2 := HN.out
      unfold I64 at h2
      by_cases h0 : 0 ≤ n
      · have := h1.1; omega
      · have := h1.2.2 (by omega); omega
    have t0 := tm_abs m
    have q0 := td_abs m
    have qs : (0 ≤ m → 0 ≤ m.tdiv 10) ∧ (m ≤ 0 → m.tdiv 10 ≤ 0) := ⟨fun h => Int.tdiv_nonneg h (by decide), fun h => by have h' := Int.tdiv_nonneg (a := -m) (b := 10) (by omega) (by decide); rw [Int.neg_tdiv] at h'; omega⟩
    have ts : (0 ≤ m → 0 ≤ m.tmod 10) ∧ (m ≤ 0 → m.tmod 10 ≤ 0) := ⟨fun h => Int.tmod_nonneg 10 h, fun h => by have h' := Int.tmod_nonneg 10 (a := -m) (by omega); rw [Int.neg_tmod] at h'; omega⟩
    obtain ⟨t, ht⟩ : ∃ t, m.tmod 10 = t := ⟨_, rfl⟩
    obtain ⟨q, hq⟩ : ∃ q, m.tdiv 10 = q := ⟨_, rfl⟩
    rw [ht] at t0 ts
    rw [hq] at q0 qs
    obtain ⟨d, hd⟩ : ∃ d : Int, d = (t.natAbs : Int) := ⟨_, rfl⟩
    have d1 : 0 ≤ d := by omega
    have d2 : d ≤ 9 := by omega
    have w1 : IntKind.i64.wrap t = t := by rw [IntKind.wrap_i64]; omega
    have w2 : IntKind.i64.wrap q = q := by rw [IntKind.wrap_i64]; omega
    have w3 : IntKind.i64.wrap (48 + d) = 48 + d := by rw [IntKind.wrap_i64]; omega
    have w4 : (48 + d) % 256 = 48 + d := by omega
    have w6 : IntKind.u8.wrap (48 + d) = 48 + d := by rw [IntKind.wrap_u8]; omega
    have e1 : ∀ w, (Op.stringOp .add ⟨#[byt (48 + d)]⟩ S).run Tryd.prog w = .ok (.string (⟨#[byt (48 + d)]⟩ ++ S)) w := fun w => run_string_add_sum w _ _ (by have : (ByteArray.mk #[byt (48 + d)]).size = 1 := rfl; omega)
    have hcv := conv1 (wr.alloc (.cells #[.int .u8 (48 + d)] 5)) wr.heap.size 1 (48 + d) (by omega) (by simp)
    have HQ : Hid (q.natAbs = m.natAbs / 10 ∧ ((0 ≤ m → 0 ≤ q) ∧ (m ≤ 0 → q ≤ 0)) ∧ d = ((m.natAbs % 10 : Nat) : Int)) := ⟨q0, qs, by omega⟩
    have hsg : (t < 0 ∧ IntKind.i64.wrap (-t) = d) ∨ (¬ t < 0 ∧ t = d) := by
      by_cases h : t < 0
      · exact Or.inl ⟨h, by rw [IntKind.wrap_i64]; omega⟩
      · exact Or.inr ⟨h, by omega⟩
    by_cases hlast : m.natAbs < 10
    · have hq0 : q = 0 := by omega
      have HF : Hid (Lib.decDigits n.natAbs = ((⟨#[byt (48 + d)]⟩ : ByteArray) ++ S).data.toList) := dg_last HD.out hlast d (by omega)
      have e2 : ∀ w, (Op.stringOp .add ⟨#[45]⟩ (⟨#[byt (48 + d)]⟩ ++ S)).run Tryd.prog w = .ok (.string (⟨#[45]⟩ ++ (⟨#[byt (48 + d)]⟩ ++ S))) w := fun w => run_string_add_sum w _ _ (by have h1 : (ByteArray.mk #[byt (48 + d)]).size = 1 := rfl; have h2 : (ByteArray.mk #[45]).size = 1 := rfl; rw [ByteArray.size_append]; omega)
      subst hq0
      clear hd t0 q0 qs ts hlast
      rcases hsg with ⟨hs1, hs2⟩ | ⟨hs1, rfl⟩
      all_goals
        by_cases h0 : n < 0
        · have HI : Hid (itoaB n = ⟨#[45]⟩ ++ (⟨#[byt (48 + _)]⟩ ++ S)) := itoa_min HF.out h0
          go_wp2_with fail
          go_ret
          exact ⟨by rw [HI.out]; rfl, HG.out.alloc _⟩
        · have HI : Hid (itoaB n = ⟨#[byt (48 + _)]⟩ ++ S) := itoa_pos HF.out (by omega)
          go_wp2_with fail
          go_ret
          exact ⟨by rw [HI.out]; rfl, HG.out.alloc _⟩
    · have hq0 : (q == 0) = false := by
        have : q ≠ 0 := by omega
        simpa using this
      have HF : Hid (Dg n q ((⟨#[byt (48 + d)]⟩ : ByteArray) ++ S)) := dg_next HD.out hlast d q (by omega) HQ.out.1 HQ.out.2.1 HZ.out
      have HM : Hid (q.natAbs < m.natAbs) := by show q.natAbs < m.natAbs; omega
      clear hd t0 q0 qs ts hlast
      rcases hsg with ⟨hs1, hs2⟩ | ⟨hs1, rfl⟩
      all_goals
        go_wp2_with fail
        go_roundw
        case rel => exact ⟨_, q, rfl, rfl, HF.out, HG.out.alloc _⟩
        case measure => exact HM.out
theorem nx_end {s : ByteArray} {p i : Nat} (hp : p ≤ i) (hi : i ≤ s.size) (hn : ∀ j, p ≤ j → (h : j < i) → s.data.toList[j]? ≠ some 32) (he : i = s.size ∨ s.data.toList[i]? = some 32) : wd s.data.toList p = (s.data.toList.drop p).take (i - p) := by
  have hl : s.data.toList.length = s.size := rfl
  have h1 := wd_at (s.data.toList.take p) ((s.data.toList.drop p).take (i - p)) (s.data.toList.drop i) (fun c hc => by
    obtain ⟨j, hj, rfl⟩ := List.getElem_of_mem hc
    rw [List.length_take, List.length_drop] at hj
    rw [List.getElem_take, List.getElem_drop]
    intro e
    refine hn (p + j) (by omega) (by omega) ?_
    rw [List.getElem?_eq_getElem (by omega), e]) (by
    rcases he with rfl | he
    · exact Or.inl (by rw [← hl]; exact List.drop_length)
    · have hlt := (List.getElem?_eq_some_iff.1 he).1
      exact Or.inr ⟨s.data.toList.drop (i + 1), by rw [List.drop_eq_getElem_cons hlt]; rw [List.getElem?_eq_getElem hlt] at he; rw [Option.some.inj he]⟩)
  have h2 : s.data.toList.take p ++ ((s.data.toList.drop p).take (i - p) ++ s.data.toList.drop i) = s.data.toList := by
    have h3 : s.data.toList.drop i = (s.data.toList.drop p).drop (i - p) := by rw [List.drop_drop]; congr 1; omega
    rw [h3, List.take_append_drop, List.take_append_drop]
  rw [h2, List.length_take, Nat.min_eq_left (by omega)] at h1
  exact h1
theorem nx_cut {s : ByteArray} {p i : Nat} (h : wd s.data.toList p = (s.data.toList.drop p).take (i - p)) : wB s p = s.extract p i := by
  apply ByteArray.ext
  apply Array.toList_inj.1
  rw [wB_list, h]
  simp [List.extract]
theorem at32 {s : ByteArray} {i : Nat} (h : i < s.size) : (s.data.toList[i]? = some 32) ↔ ((s[i].toNat : Int) = 32) := by
  have hl : s.data.toList.length = s.size := rfl
  rw [List.getElem?_eq_getElem (by omega)]
  have e : s.data.toList[i]'(by omega) = s[i] := rfl
  rw [e]
  constructor
  · intro h
    rw [Option.some.inj h]
    rfl
  · intro h
    congr 1
    apply UInt8.toNat_inj.1
    have : (32 : UInt8).toNat = 32 := rfl
    omega
set_option maxRecDepth 20000 in
set_option maxHeartbeats 1000000 in
theorem next44 (s : ByteArray) (p : Nat) (w : World) (hp : p ≤ s.size) (hs : s.size ≤ 4194304) : Calls Tryd.prog 44 #[.string s, .int .i64 p] w fun e w' => e = .returned (.string (wB s p)) ∧ w' = w := by
  have hpz : (p : Int) ≤ (s.size : Int) := by omega
  have hpz0 : (0 : Int) ≤ (p : Int) := by omega
  have hsz : (s.size : Int) ≤ 4194304 := by omega
  go_enter Tryd.func44, Tryd.ntmps44
  go_wp2_with fail
  go_loopw [5] (fun i wr => ∃ j : Nat, i = .int .i64 j ∧ p ≤ j ∧ j ≤ s.size ∧ Hid (∀ q, p ≤ q → (h : q < j) → s.data.toList[q]? ≠ some 32) ∧ wr = w) (fun i _ => s.size - (intOf i).toNat)
  case atStart => exact ⟨p, rfl, Nat.le_refl _, hp, fun q h1 h2 => by omega, rfl⟩
  case round =>
    obtain ⟨j, rfl, h1, h2, HN, rfl⟩ := hrel
    have h1z : (p : Int) ≤ (j : Int) := by omega
    have h2z : (j : Int) ≤ (s.size : Int) := by omega
    have hj0 : (0 : Int) ≤ (j : Int) := by omega
    by_cases hlt : j < s.size
    · have hz : (j : Int) < (s.size : Int) := by omega
      by_cases h32 : (s[j].toNat : Int) = 32
      · have HE : Hid (wB s p = s.extract p j) := nx_cut (nx_end h1 h2 HN.out (Or.inr ((at32 hlt).2 h32)))
        have hb : ((s[j].toNat : Int) == 32) = true := by simpa using h32
        go_wp2_with fail
        go_ret
        exact ⟨by rw [HE.out]; simp, rfl⟩
      · have HN2 : Hid (∀ q, p ≤ q → (h : q < j + 1) → s.data.toList[q]? ≠ some 32) := fun q k1 k2 => by
          by_cases hq : q = j
          · subst hq
            exact fun e => h32 ((at32 hlt).1 e)
          · exact HN.out q k1 (by omega)
        have hb : ((s[j].toNat : Int) == 32) = false := by simpa using h32
        go_wp2_with fail
        go_roundw
        case rel => exact ⟨j + 1, by go_num, by omega, by omega, HN2.out, by first | rfl | trivial⟩
        case measure => simp [intOf]; omega
    · have hz : ¬ (j : Int) < (s.size : Int) := by omega
      have HE : Hid (wB s p = s.extract p j) := nx_cut (nx_end h1 h2 HN.out (Or.inl (by omega)))
      go_wp2_with fail
      go_ret
      exact ⟨by rw [HE.out]; simp, rfl⟩
theorem beq_words (a b : ByteArray) : (a.toList == b.toList) = decide (a = b) := by
  by_cases h : a = b
  · rw [decide_eq_true h]; exact (beqB _ _).2 h
  · rw [decide_eq_false h]
    cases hb : (a.toList == b.toList) with
    | true => exact absurd ((beqB _ _).1 hb) h
    | false => rfl
set_option maxRecDepth 20000 in
theorem op45 (s : ByteArray) (w : World) : Calls Tryd.prog 45 #[.string s] w fun e w' => e = .returned (.int .i64 (opW s.data.toList)) ∧ w' = w := by
  go_enter Tryd.func45, Tryd.ntmps45
  go_wp2_with fail
  go_loopw [3] (fun i wr => ∃ k : Nat, i = .int .i64 k ∧ 1 ≤ k ∧ k ≤ 13 ∧ Hid (∀ q, 1 ≤ q → q < k → s.data.toList ≠ (kWord q).data.toList) ∧ wr = w) (fun i _ => 13 - (intOf i).toNat)
  case atStart => exact ⟨1, rfl, Nat.le_refl _, by decide, fun q h1 h2 => by omega, rfl⟩
  case round =>
    obtain ⟨k, rfl, h1, h2, HN, rfl⟩ := hrel
    by_cases hk : k ≤ 12
    · have hkz : (k : Int) ≤ 12 := by omega
      have HC : Hid _ := word41 k h1 hk wr
      by_cases he : kWord k = s
      · have hb : ((kWord k).toList == s.toList) = true := (beqB _ _).2 he
        have HO : Hid (opW s.data.toList = k) := opW_first _ k h1 hk (by rw [he])
        generalize kWord k = kw at *
        generalize kNamed k = kn at *
        go_wp2_with fail
        refine Calls.mono HC.out ?_
        rintro e w1 ⟨rfl, rfl⟩
        go_wp2_with fail
        go_ret
        exact ⟨by rw [HO.out]; rfl, rfl⟩
      · have hb : ((kWord k).toList == s.toList) = false := by rw [beq_words]; exact decide_eq_false he
        have HN2 : Hid (∀ q, 1 ≤ q → q < k + 1 → s.data.toList ≠ (kWord q).data.toList) := fun q k1 k2 => by
          by_cases hq : q = k
          · subst hq
            exact fun e => he (ByteArray.ext (Array.toList_inj.1 e.symm))
          · exact HN.out q k1 (by omega)
        generalize kWord k = kw at *
        generalize kNamed k = kn at *
        go_wp2_with fail
        refine Calls.mono HC.out ?_
        rintro e w1 ⟨rfl, rfl⟩
        go_wp2_with fail
        go_roundw
        case rel => exact ⟨k + 1, by go_num, by omega, by omega, HN2.out, by first | rfl | trivial⟩
        case measure => simp [intOf]; omega
    · have hkz : ¬ (k : Int) ≤ 12 := by omega
      obtain rfl : k = 13 := by omega
      have HO : Hid (opW s.data.toList = 0) := opW_none _ (fun q k1 k2 => HN.out q k1 (by omega))
      go_wp2_with fail
      go_ret
      exact ⟨by rw [HO.out]; rfl, rfl⟩
end Go.Proofs.YtgjojdlbighoaaaDoor
