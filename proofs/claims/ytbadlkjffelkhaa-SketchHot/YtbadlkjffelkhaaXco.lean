/- The contracts of counts and of the copy of hot keys; no conditions but those that each states. -/
import Derived.Test.YtbadlkjffelkhaaXho
import Derived.Test.YtbadlkjffelkhaaXap
import Derived.Test.YtbadlkjffelkhaaXug
import Derived.Test.YtbadlkjffelkhaaAlh
namespace Go.Proofs.Ytbadlkjffelkhaa.Sk
open Go.RowKit Go.Maps Go.ChangeMaps
set_option maxRecDepth 100000
set_option linter.unusedVariables false
set_option linter.unusedSimpArgs false
theorem infoH : (Try.prog.info? 60).map (fun i => (i.zero, i.size, i.bytes)) = some (some (.agg #[.int .u16 0, .string ⟨#[]⟩, .int .i64 0]), 3, 32) := by kernel_rfl
/-- The keys that may be, with their counts. -/
def hots (X : S) : List K → List Ht
  | [] => []
  | k :: l => if k.2.size ≤ 64 then ⟨k, (cnK X k : Nat)⟩ :: hots X l else hots X l
theorem hots_app (X : S) (l m : List K) : hots X (l ++ m) = hots X l ++ hots X m := by
  induction l with
  | nil => rfl
  | cons k l ih =>
    simp only [List.cons_append, hots, ih]
    split <;> simp
theorem hots_len (X : S) (l : List K) : (hots X l).length ≤ l.length := by
  induction l with
  | nil => simp [hots]
  | cons k l ih =>
    simp only [hots, List.length_cons]
    split
    · simp only [List.length_cons]; omega
    · omega
theorem touch_below {w w' : World} (h : Below w.heap.size w w') : Touch [] w w' := Touch.of_below h
section
variable {w w' : World} {s g cap : Nat} {X : S}
set_option maxHeartbeats 8000000 in
theorem counts_ (k : Kq w s g cap X) {v : Value} {xs : List K} (hs : Un.Sl w v xs) (ho : ∀ x ∈ xs, Ok x) (hl : xs.length * 24 ≤ 140737488351232) : Calls Try.prog 37 #[PT s, v] w fun e w' => ∃ a n c, e = .returned (.slice a n c) ∧ n = (hots X (Un.unl [] xs)).length ∧ w'.ownsRow w.heap.size 60 3 (.slice a n c) n ((hots X (Un.unl [] xs)).flatMap rowH) ∧ Touch [] w w' := by
  have HU : Hid (Calls Try.prog 49 #[v] w fun e w1 => ∃ v1, e = .returned v1 ∧ Un.Sl w1 v1 (Un.unl [] xs) ∧ Touch [] w w1) := hid ((Un.unlike29 xs v w hl ho hs).mono (by
    rintro e w1 ⟨v1, rfl, h1, h2⟩
    exact ⟨v1, rfl, h1, Touch.of_below h2⟩))
  obtain ⟨U, hU⟩ : ∃ U, U = Un.unl [] xs := ⟨_, rfl⟩
  have hUl : U.length ≤ xs.length := by rw [hU]; have := Un.unl_len [] xs; simpa using this
  have HUO : Hid (∀ x ∈ U, Ok x) := hid (fun x hx => by
    rw [hU, Un.unl_mem] at hx
    rcases hx with h | h
    · cases h
    · exact ho x h)
  rw [← hU] at HU ⊢
  have hUb : U.length ≤ 5864062014634 := by omega
  have HK := hid (fun w1 (t1 : Touch [] w w1) => k.keep0 t1)
  have HCK := hid (fun (x : K) (h : x.2.size ≤ 64) w1 => check_ok h w1)
  have HCN := hid (fun (x : K) (h : 64 < x.2.size) w1 => check_no h w1)
  have HCT := hid (fun w1 (t1 : Touch [] w w1) (x : K) (hx : Ok x) => count_ (k.keep0 t1) hx)
  clear k hs ho hl hU hUl
  unfold kv PT at *
  go_enter Try.func37, Try.ntmps37
  go_wp2_with fail
  refine HU.out.mono ?_
  rintro e w1 ⟨v1, rfl, S1, T1⟩
  have HU1 : Hid (∃ a c, v1 = .slice a U.length c ∧ ∀ w2, Touch [] w1 w2 → ∀ i, (hi : i < U.length) → ∃ b off, a = some ⟨b, off, none⟩ ∧ w2.cell? ⟨b, off + i * 2, none⟩ = some (.int .u16 U[i].1) ∧ w2.cell? ⟨b, off + i * 2 + 1, none⟩ = some (.string U[i].2)) := hid (by
    rcases S1 with ⟨rfl, a, c, rfl⟩ | ⟨b, off, c, rfl, R⟩
    · exact ⟨a, c, rfl, fun w2 t2 i hi => absurd hi (Nat.not_lt_zero _)⟩
    · refine ⟨_, c, rfl, fun w2 t2 i hi => ⟨b, off, rfl, ?_, ?_⟩⟩
      · have e : w2.heap[b]? = w1.heap[b]? := t2.block b R.lt (by simp)
        rw [World.cell?_of_block (a := ⟨b, off + i * 2, none⟩) e]; exact R.at0 i hi
      · have e : w2.heap[b]? = w1.heap[b]? := t2.block b R.lt (by simp)
        rw [World.cell?_of_block (a := ⟨b, off + i * 2 + 1, none⟩) e]; exact R.at1 i hi)
  obtain ⟨a1, c1, rfl, HX1⟩ := HU1.out
  have HX := hid HX1
  have HT1 := hid T1
  clear HU HU1 HX1 S1 T1
  obtain ⟨n, hn⟩ : ∃ n, n = U.length := ⟨_, rfl⟩
  have HN := hid hn
  rw [← hn] at hUb ⊢
  clear hn
  go_wp2
  go_loopw [5, 11] (fun s5 s11 wr => ∃ (i m : Nat) (a : Option Addr) (c : Nat), i ≤ n ∧ m ≤ i ∧ s11 = .int .i64 i ∧ s5 = .slice a m c ∧ Hid (m = (hots X (U.take i)).length ∧ Touch [] w1 wr ∧ wr.ownsRow w1.heap.size 60 3 (.slice a m c) m ((hots X (U.take i)).flatMap rowH))) (fun _ s11 _ => n - (intOf s11).toNat)
  case atStart => exact ⟨0, 0, none, 0, Nat.zero_le _, Nat.le_refl _, rfl, rfl, hid ⟨rfl, Touch.refl _ _, World.ownsRow_nil _ _ _ _⟩⟩
  case round =>
    obtain ⟨i, m, a, c, hi, hmi, rfl, rfl, HI⟩ := hrel
    by_cases hlt : i < n
    · have zi : (i : Int) < (n : Int) := by omega
      have hik : i < U.length := by have := HN.out; omega
      obtain ⟨kb, off, rfl, g1, g2⟩ := HX.out wr HI.out.2.1 i hik
      have HTK : Hid (U.take (i + 1) = U.take i ++ [U[i]]) := hid (List.take_succ_eq_append_getElem hik)
      have hok := HUO.out U[i] (List.getElem_mem hik)
      obtain ⟨x, hx⟩ : ∃ x, x = U[i] := ⟨_, rfl⟩
      rw [← hx] at HTK hok g1 g2
      obtain ⟨V, hV⟩ : ∃ V, V = wr.alloc (.cells #[.int .u16 x.1, .string x.2] 43) := ⟨_, rfl⟩
      have TV : Touch [] wr V := by rw [hV]; exact (Touch.refl _ _).alloc _
      obtain ⟨xb, hxb⟩ : ∃ xb, xb = wr.heap.size := ⟨_, rfl⟩
      have hb : V.heap[xb]? = some (.cells #[.int .u16 x.1, .string x.2] 43 (0, 0)) := by rw [hV, hxb]; exact heap_alloc_new wr _
      have y0 := cell_at (j := 0) (v := .int .u16 x.1) hb rfl
      have y1 := cell_at (j := 1) (v := .string x.2) hb rfl
      have HBX := hid hb
      have HTV := hid TV
      clear hx HX HUO hik
      go_upto_region 5 with fail
      rw [← hV, ← hxb]
      clear hV hxb hb TV g1 g2
      by_cases h64 : x.2.size ≤ 64
      · have HC1 := hid (HCK.out x h64)
        have HCC : Hid (∀ w2, Touch [] V w2 → Calls Try.prog 23 #[.pointer (some ⟨s, 0, none⟩), .agg #[.int .u16 x.1, .string x.2]] w2 fun e w3 => e = .returned (.int .i64 (cnK X x : Nat)) ∧ Touch [] w2 w3) := hid (fun w2 t2 => HCT.out w2 (((HT1.out.trans' HI.out.2.1).trans' HTV.out).trans' t2) x hok)
        have HHN : Hid (hots X (U.take (i + 1)) = hots X (U.take i) ++ [⟨x, (cnK X x : Nat)⟩]) := hid (by rw [HTK.out, hots_app]; simp [hots, h64])
        have HAP : Hid (∀ w2, Touch [] V w2 → w2.ownsRow w1.heap.size 60 3 (.slice a m c) m ((hots X (U.take i)).flatMap rowH) ∧ w1.heap.size ≤ w2.heap.size ∧ Touch [] w1 w2) := hid (fun w2 t2 => by
          have t3 := HI.out.2.1.trans' (HTV.out.trans' t2)
          exact ⟨own_touch HI.out.2.2 (HTV.out.trans' t2) (fun _ _ e => by cases e), t3.size, t3⟩)
        have HEQ : Hid (m = (hots X (U.take i)).length) := hid HI.out.1
        clear HCK HCN HCT HI HTV hok h64 HTK HK
        generalize cnK X x = cn at *
        generalize hots X (U.take i) = HL at *
        go_wp2_with (go_at_call 33; refine (HC1.out _).mono ?_; rintro e w2 ⟨rfl, t2⟩)
        have T2 := hid t2
        have k0 := t2.keep HBX.out (by simp)
        clear t2 y0 y1
        obtain ⟨W0, hW0⟩ : ∃ W0, W0 = w2.drew := ⟨_, rfl⟩
        have HTW : Hid (Touch [] V W0) := hid (by rw [hW0]; exact T2.out.drew)
        have s0 : W0.heap[xb]? = some (.cells #[.int .u16 x.1, .string x.2] 43 (0, 0)) := by rw [hW0]; exact k0
        have C0 : ∀ w' : World, w'.heap[xb]? = some (.cells #[.int .u16 x.1, .string x.2] 43 (0, 0)) → w'.cell? ⟨xb, 0, none⟩ = some (.int .u16 x.1) := fun w' h => cell_at h rfl
        have C1 : ∀ w' : World, w'.heap[xb]? = some (.cells #[.int .u16 x.1, .string x.2] 43 (0, 0)) → w'.cell? ⟨xb, 1, none⟩ = some (.string x.2) := fun w' h => cell_at h rfl
        refine wp_region_H (S := fun w' => w'.heap[xb]? = some (.cells #[.int .u16 x.1, .string x.2] 43 (0, 0))) (by kernel_rfl) ?_
        rw [← hW0]
        clear hW0 k0
        refine wpH_take (i := 0) (v := (Value.slice a m c)) (some 18) rfl rfl (by kernel_rfl) (by kernel_rfl) (by kernel_rfl) (fun _ _ _ h => h) (Or.inl ⟨by rfl, fun w' hS => (by go_simp)⟩) s0 ?_
        try simp only [Go.Act.put, List.setIfInBounds_toArray, List.set_cons_zero, List.set_cons_succ]
        refine wpH_take (i := 1) (v := (.agg #[.int .u16 x.1, .string x.2])) (some 19) rfl rfl (by kernel_rfl) (by kernel_rfl) (by kernel_rfl) (fun _ _ _ h => h) (Or.inl ⟨by rfl, fun w' hS => (by have z0 := C0 _ hS; have z1 := C1 _ hS; go_simp)⟩) s0 ?_
        try simp only [Go.Act.put, List.setIfInBounds_toArray, List.set_cons_zero, List.set_cons_succ]
        refine wpH_take (i := 2) (v := (.pointer (some ⟨s, 0, none⟩))) (some 20) rfl rfl (by kernel_rfl) (by kernel_rfl) (by kernel_rfl) (fun _ _ _ h => h) (Or.inl ⟨by rfl, fun w' hS => (by go_simp)⟩) s0 ?_
        try simp only [Go.Act.put, List.setIfInBounds_toArray, List.set_cons_zero, List.set_cons_succ]
        refine wpH_take (i := 3) (v := (.agg #[.int .u16 x.1, .string x.2])) (some 21) rfl rfl (by kernel_rfl) (by kernel_rfl) (by kernel_rfl) (fun _ _ _ h => h) (Or.inl ⟨by rfl, fun w' hS => (by have z0 := C0 _ hS; have z1 := C1 _ hS; go_simp)⟩) s0 ?_
        try simp only [Go.Act.put, List.setIfInBounds_toArray, List.set_cons_zero, List.set_cons_succ]
        refine wpH_call (i := 4) (o := { dst := some 22, op := Op.call { callee := Callee.value (Operand.func 23), args := #[Operand.tmp 20, Operand.tmp 21], argTypes := #[25, 43] }, type := 3, pos := _, after := #[{ on := 2, ground := Ground.data }, { on := 3, ground := Ground.data }], guard := none }) (by kernel_rfl) rfl (fun K' hK => ?_)
        rw [if_pos (by rfl)]
        go_simp
        refine (HCC.out _ HTW.out).mono ?_
        rintro e w3 ⟨rfl, t3⟩
        have s1 := t3.keep s0 (by simp)
        have HT3 := hid (HTW.out.trans' t3)
        refine hK.out _ _ s1 ?_
        clear hK
        try simp only [Go.Act.put, List.setIfInBounds_toArray, List.set_cons_zero, List.set_cons_succ]
        refine wpH_take (i := 5) (v := (.agg #[.int .u16 x.1, .string x.2, .int .i64 (cn : Nat)])) (some 23) rfl rfl (by kernel_rfl) (by kernel_rfl) (by kernel_rfl) (fun _ _ _ h => h) (Or.inl ⟨by rfl, fun w' hS => (by go_simp)⟩) s1 ?_
        try simp only [Go.Act.put, List.setIfInBounds_toArray, List.set_cons_zero, List.set_cons_succ]
        refine wpH_call (i := 6) (o := { dst := some 24, op := Op.buildSlice 52 1 #[(0, Operand.tmp 23)], type := 52, pos := _, after := #[{ on := 5, ground := Ground.data }], guard := none }) (by kernel_rfl) rfl (fun K' hK => ?_)
        rw [if_pos (by rfl)]
        go_simp
        have s2 := ((Touch.refl [] w3).alloc (.cells #[.int .u16 x.1, .string x.2, .int .i64 (cn : Nat)] 60)).keep s1 (by simp)
        refine hK.out _ _ s2 ?_
        clear hK
        try simp only [Go.Act.put, List.setIfInBounds_toArray, List.set_cons_zero, List.set_cons_succ]
        refine wpH_call (i := 7) (o := { dst := some 25, op := Op.call { callee := Callee.builtin Builtin.append, args := #[Operand.tmp 18, Operand.tmp 24], argTypes := #[52, 52] }, type := 52, pos := _, after := #[{ on := 0, ground := Ground.data }, { on := 6, ground := Ground.data }, { on := 4, ground := Ground.chain }], guard := none }) (by kernel_rfl) rfl (fun K' hK => ?_)
        rw [if_pos (by rfl)]
        refine wp_append_big _ _ 52 60 rfl (.agg #[.int .u16 0, .string ⟨#[]⟩, .int .i64 0]) 3 32 infoH Try.underlying52 rfl (by decide) w1.heap.size (.slice a m c) m (HL.flatMap rowH) rfl (HAP.out _ (HT3.out.alloc _)).1 (.slice (some ⟨w3.heap.size, 0, none⟩) 1 1) 1 _ rfl (Rs.new w3 #[.int .u16 x.1, .string x.2, .int .i64 (cn : Nat)] 60 3 rfl) (by decide) (by simp [Value.oneCell']) (by unfold maxLen; omega) (fun cap q1 q2 => by have := next_one q1 q2; omega) (HAP.out _ (HT3.out.alloc _)).2.1 ?_
        intro v6 w6 o6 g6 _
        obtain ⟨a6, c6, e6, _⟩ := (Rs.of_own o6).form
        subst e6
        have T6 := hid (touch_grown (HAP.out _ (HT3.out.alloc _)).2.2 g6 (HAP.out _ (HT3.out.alloc _)).1 (Nat.le_refl _))
        have s3 : w6.heap[xb]? = some (.cells #[.int .u16 x.1, .string x.2] 43 (0, 0)) := by
          have tg : Touch (Value.slice a m c).ownBlock.toList _ w6 := (Touch.refl _ _).grown g6 (fun q hq => Or.inl (by simp [hq]))
          refine tg.keep s2 (fun hm => ?_)
          obtain ⟨cs, h1⟩ := own_kind (HAP.out _ (HT3.out.alloc _)).1 (by simpa using hm)
          rw [s2] at h1
          cases h1
        have O6 := hid o6
        clear o6 g6
        refine hK.out _ _ s3 ?_
        clear hK
        try simp only [Go.Act.put, List.setIfInBounds_toArray, List.set_cons_zero, List.set_cons_succ]
        refine wpH_take (i := 8) (v := (Value.slice a6 (m + 1) c6)) (some 5) rfl rfl (by kernel_rfl) (by kernel_rfl) (by kernel_rfl) (fun _ _ _ h => h) (Or.inl ⟨by rfl, fun w' hS => (by go_simp)⟩) s3 ?_
        try simp only [Go.Act.put, List.setIfInBounds_toArray, List.set_cons_zero, List.set_cons_succ]
        refine wpAnyH_done (by kernel_rfl) ?_ _
        clear C0 C1
        go_wp2
        refine ⟨⟨i + 1, m + 1, a6, c6, by omega, by omega, rfl, rfl, hid ⟨?_, T6.out, ?_⟩⟩, by simp [intOf]; omega⟩
        · rw [HHN.out, List.length_append, ← HEQ.out]; rfl
        · rw [HHN.out, List.flatMap_append]
          have := O6.out
          simpa [rowH] using this
      · have HC1 := hid (HCN.out x (by omega))
        have HHN : Hid (hots X (U.take (i + 1)) = hots X (U.take i)) := hid (by rw [HTK.out, hots_app]; simp [hots, h64])
        have HI2 : Hid (∀ w2, Touch [] V w2 → m = (hots X (U.take i)).length ∧ Touch [] w1 w2 ∧ w2.ownsRow w1.heap.size 60 3 (.slice a m c) m ((hots X (U.take i)).flatMap rowH)) := hid (fun w2 t2 => ⟨HI.out.1, HI.out.2.1.trans' (HTV.out.trans' t2), own_touch HI.out.2.2 (HTV.out.trans' t2) (fun _ _ e => by cases e)⟩)
        clear HCK HCN HCT HI HTV hok h64 HTK HK HBX
        go_wp2_with (go_at_call 33; refine (HC1.out _).mono ?_; rintro e w2 ⟨rfl, t2⟩)
        refine ⟨⟨i + 1, m, a, c, by omega, by omega, rfl, rfl, hid ?_⟩, by simp [intOf]; omega⟩
        rw [HHN.out]
        exact HI2.out _ t2
    · have ei : i = n := by omega
      subst ei
      have zi : ¬ (i : Int) < (i : Int) := by omega
      have HZ : Hid (m = (hots X U).length ∧ wr.ownsRow w.heap.size 60 3 (.slice a m c) m ((hots X U).flatMap rowH) ∧ Touch [] w wr) := hid (by
        obtain ⟨q1, q2, q3⟩ := HI.out
        rw [List.take_of_length_le (by have := HN.out; omega)] at q1 q3
        exact ⟨q1, own_base q3 HT1.out.size, HT1.out.trans' q2⟩)
      clear HX HUO HCK HCN HCT HI HK
      go_wp2
      go_ret
      exact ⟨a, m, c, rfl, HZ.out.1, HZ.out.2.1, HZ.out.2.2⟩
end
end Go.Proofs.Ytbadlkjffelkhaa.Sk
