/- The keys that joined, as the document gathers them; no conditions but those that each states. -/
import Derived.Test.YtibgfkjhohgkhaaTlk
import Derived.Test.YtibgfkjhohgkhaaXun
namespace Go.Proofs.Ytibgfkjhohgkhaa.Ty
open Go.RowKit Go.Maps Go.ChangeMaps
open Tr
set_option linter.unusedVariables false
set_option linter.unusedSimpArgs false
def kj (L : List Ez) : List K := (L.filter (fun e => decide (e.kd = 1))).map Ez.key
theorem kj_yes {L : List Ez} {e : Ez} (h : e.kd = 1) : kj (L ++ [e]) = kj L ++ [Ez.key e] := by simp [kj, h]
theorem kj_no {L : List Ez} {e : Ez} (h : ¬ e.kd = 1) : kj (L ++ [e]) = kj L := by simp [kj, h]
theorem kj_len (L : List Ez) : (kj L).length ≤ L.length := by unfold kj; rw [List.length_map]; exact List.length_filter_le _ _
theorem push_unl (out : List K) (x : K) : push out x = Un.unl out [x] := by
  unfold push
  by_cases h : x ∈ out
  · rw [if_pos h, Un.unl_one_in out x h]
  · rw [if_neg h, Un.unl_one_new out x h]
theorem oS_K (s : Ta) (e : Ez) : (oS s e).K = if e.kd = 1 then push s.K (Ez.key e) else s.K := by
  unfold oS
  split
  · rfl
  split
  · rfl
  split <;> rfl
theorem oL_K : ∀ (M L : List Ez), (oL (L ++ M)).K = Un.unl (oL L).K (kj M)
  | [], L => by simp [kj, Un.unl]
  | e :: M, L => by
    rw [show L ++ e :: M = (L ++ [e]) ++ M by simp, oL_K M (L ++ [e]), oL_snoc, oS_K, show e :: M = [e] ++ M from rfl]
    by_cases h : e.kd = 1
    · rw [if_pos h, show kj ([e] ++ M) = [Ez.key e] ++ kj M by simp [kj, h], Un.unl_app, push_unl]
    · rw [if_neg h, show kj ([e] ++ M) = kj M by simp [kj, h]]
theorem oL_keys (L : List Ez) : (oL L).K = Un.unl [] (kj L) := oL_K L []
theorem sl_own {w : World} {B t : Nat} {v : Value} {xs : List K} (h : w.ownsRow B t 2 v xs.length (Un.cellsK xs)) : Un.Sl w v xs := by
  by_cases hn : 0 < xs.length
  · obtain ⟨g, c, rfl, _, _⟩ := own_some h hn
    exact Or.inr ⟨g, 0, c, rfl, Un.owns_row h⟩
  · have : xs = [] := List.length_eq_zero_iff.1 (by omega)
    subst this
    obtain ⟨p, c, e⟩ := own_form h
    exact Or.inl ⟨rfl, p, c, e⟩
theorem sl_len {w : World} {v : Value} {xs : List K} (h : Un.Sl w v xs) : ∃ a c, v = .slice a xs.length c := by
  rcases h with ⟨rfl, a, c, e⟩ | ⟨b, off, c, e, _⟩
  · exact ⟨a, c, e⟩
  · exact ⟨_, c, e⟩
theorem info77 : (Try.prog.info? 77).map (fun i => (i.zero, i.size, i.bytes)) = some (some (.agg #[.int .u16 0, .string ⟨#[]⟩]), 2, 24) := by kernel_rfl
set_option maxHeartbeats 1000000 in
set_option maxRecDepth 20000 in
theorem rkeys_ {w : World} {v : Value} {L : List Ez} (h : Ev w v L) (hl : L.length ≤ 2000) :
    Calls Try.prog 26 #[v] w fun r w' => ∃ a c, r = .returned (.slice a (oL L).K.length c) ∧ Touch [] w w' := by
  have H := hid h
  obtain ⟨a, c, rfl, hc, hrow⟩ := h
  clear hrow
  obtain ⟨n, hn⟩ : ∃ n, L.length = n := ⟨_, rfl⟩
  have HN := hid hn
  have HKL := hid (kj_len L)
  rw [hn] at hl hc H HKL ⊢
  clear hn
  have HM : Hid ((w.alloc (.cells #[] 77)).ownsRow w.heap.size 77 2 (.slice (some ⟨w.heap.size, 0, none⟩) 0 0) 0 []) := World.ownsRow_made (e := 77) (size := 2) w #[] 0 (Nat.le_refl _) (by unfold maxLen; omega) rfl
  go_enter Try.func26, Try.ntmps26
  go_wp2_with fail
  go_loopw [3, 9] (fun o i wr => ∃ (j m : Nat) (p : Option Addr) (k : Nat), i = .int .i64 j ∧ o = .slice p m k ∧ j ≤ n ∧ m = (kj (L.take j)).length ∧ Hid (wr.ownsRow w.heap.size 77 2 (.slice p m k) m (Un.cellsK (kj (L.take j)))) ∧ Hid (Touch [] w wr)) (fun _ i _ => n - (intOf i).toNat)
  case atStart => exact ⟨0, 0, _, 0, rfl, rfl, Nat.zero_le _, rfl, HM, hid ((Touch.refl [] w).alloc _)⟩
  case round =>
    obtain ⟨j, m, p, k, rfl, rfl, hj, hm, HO, HT⟩ := hrel
    by_cases hlt : j < n
    · obtain ⟨e, he⟩ : ∃ e, L[j]? = some e := ⟨_, List.getElem?_eq_getElem (by rw [HN.out]; exact hlt)⟩
      obtain ⟨g, off, rfl, hg, c0, c1, c2, c3, c4, c5, c6, c7, c8, c9, c10, c11, c12⟩ := (H.out.keep HT.out).at_ he
      have HSN := hid (show L.take (j + 1) = L.take j ++ [e] by rw [List.take_add_one, he]; rfl)
      have hml : m ≤ j := by rw [hm]; refine Nat.le_trans (kj_len _) ?_; rw [List.length_take]; omega
      have HMJ := hid hm
      clear hm he
      have B1 : Ib (wr.alloc (.cells #[.int .i64 e.at_, .int .i64 e.kd, .int .i64 e.cl, .int .i64 e.ca, .int .i64 e.ru, .int .i64 e.ge, .int .i64 e.ho, .int .u16 e.sp, .string e.nm, .int .i64 e.va, .int .i64 e.fk, .int .i64 e.fc, .int .i64 e.fr] 82)) wr.heap.size e := Ib.new wr e 82
      have t1 : Touch [] wr (wr.alloc (.cells #[.int .i64 e.at_, .int .i64 e.kd, .int .i64 e.cl, .int .i64 e.ca, .int .i64 e.ru, .int .i64 e.ge, .int .i64 e.ho, .int .u16 e.sp, .string e.nm, .int .i64 e.va, .int .i64 e.fk, .int .i64 e.fc, .int .i64 e.fr] 82)) := (Touch.refl [] wr).alloc _
      go_upto_region 5 with fail
      clear c0 c1 c2 c3 c4 c5 c6 c7 c8 c9 c10 c11 c12
      have HO1 := hid (own_touch HO.out t1 (fun _ _ h => (by cases h)))
      have HT1 := hid (HT.out.trans' t1)
      clear t1
      generalize wr.alloc (.cells #[.int .i64 e.at_, .int .i64 e.kd, .int .i64 e.cl, .int .i64 e.ca, .int .i64 e.ru, .int .i64 e.ge, .int .i64 e.ho, .int .u16 e.sp, .string e.nm, .int .i64 e.va, .int .i64 e.fk, .int .i64 e.fc, .int .i64 e.fr] 82) = W1 at *
      obtain ⟨c0, c1, c2, c3, c4, c5, c6, c7, c8, c9, c10, c11, c12⟩ := B1
      by_cases hk : e.kd = 1
      · have HK := hid hk
        rw [hk] at c1
        clear hk
        have HR := hid (Rs.new W1 #[.int .u16 e.sp, .string e.nm] 77 2 rfl)
        have tw : Touch [] W1 (W1.alloc (.cells #[.int .u16 e.sp, .string e.nm] 77)) := (Touch.refl [] W1).alloc _
        have HOW := hid (own_touch HO1.out tw (fun _ _ h => (by cases h)))
        have HTW := hid (HT1.out.trans' tw)
        have HZ := hid HTW.out.size
        have HZP := hid (show w.heap.size ≤ w.heap.size from Nat.le_refl _)
        have HC1 := hid (show ∀ y ∈ [Value.int .u16 e.sp, .string e.nm], y.oneCell' = true from fun y hy => by
          simp only [List.mem_cons, List.not_mem_nil, or_false] at hy
          rcases hy with rfl | rfl <;> rfl)
        clear tw HO1 HT1
        have HJ := hid (show m + 1 ≤ maxLen ∧ (m + 1) * 24 ≤ 140737488355328 from ⟨by unfold maxLen; omega, by omega⟩)
        have HE := hid (show Un.cellsK (kj (L.take j)) ++ [Value.int .u16 e.sp, .string e.nm] = Un.cellsK (kj (L.take (j + 1))) by rw [HSN.out, kj_yes HK.out, Un.cellsK_app]; rfl)
        have HME := hid (show m + 1 = (kj (L.take (j + 1))).length by rw [HSN.out, kj_yes HK.out, List.length_append, HMJ.out]; rfl)
        clear HMJ HSN
        generalize Un.cellsK (kj (L.take j)) = xs at *
        go_upto_region 7 with (at_builtin; refine wpList_append_rs rfl _ _ 75 77 rfl (.agg #[.int .u16 0, .string ⟨#[]⟩]) 2 24 info77 Try.underlying75 rfl (by decide) w.heap.size (.slice p m k) m xs rfl HOW.out (.slice (some ⟨W1.heap.size, 0, none⟩) 1 1) 1 [.int .u16 e.sp, .string e.nm] rfl HR.out HC1.out HJ.out.1 HJ.out.2 HZ.out ?_; intro v' w' o' g' p'; have HT3 := hid (touch_grown HTW.out g' HOW.out HZP.out); clear g' p' HR HOW HTW; obtain ⟨a', c', ea⟩ := own_form o'; subst ea; rw [HE.out] at o'; have HO3 := hid o'; clear o')
        clear c0 c1 c2 c3 c4 c5 c6 c7 c8 c9 c10 c11 c12
        go_wp2_with fail
        go_roundw
        case rel => exact ⟨j + 1, m + 1, a', c', rfl, rfl, hlt, HME.out, HO3, HT3⟩
        case measure => first | (simp [intOf]; done) | (simp [intOf]; omega)
      · have hkb : (e.kd == 1) = false := by simpa using hk
        have HK := hid (kj_no (L := L.take j) hk)
        clear hk
        go_wp2_with fail
        go_roundw
        case rel => exact ⟨j + 1, m, p, k, rfl, rfl, hlt, by rw [HSN.out, HK.out]; exact HMJ.out, hid (by rw [HSN.out, HK.out]; exact HO1.out), HT1⟩
        case measure => first | (simp [intOf]; done) | (simp [intOf]; omega)
    · obtain rfl : j = n := by omega
      rw [← HN.out, List.take_length] at HO hm
      have HU := hid (Un.ref28 (kj L) (.slice p m k) wr (by have := HKL.out; omega) (sl_own (by rw [← hm]; exact HO.out)))
      clear hm
      go_wp2_with (go_at_call 42; refine HU.out.mono ?_; rintro r w2 ⟨v2, rfl, s2, b2⟩; obtain ⟨a2, k2, rfl⟩ := sl_len s2; have T2 := hid (HT.out.trans' (Touch.of_below b2)); clear s2 b2)
      go_ret
      exact ⟨a2, k2, by rw [oL_keys]; rfl, T2.out⟩
end Go.Proofs.Ytibgfkjhohgkhaa.Ty
